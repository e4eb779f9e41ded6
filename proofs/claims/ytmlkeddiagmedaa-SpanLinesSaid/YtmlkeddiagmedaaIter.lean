import Derived.RangeFuncNested
import Derived.RangeFuncBound
import Derived.RangeFuncCalls
import Derived.RangeFuncLeaves
import Derived.Shelf.Abstract
import Derived.Shelf.RegionOpen
import Derived.WalkKit
import Derived.OwnWalkIn
import Derived.TacticsInMore
import Derived.LoopNIn
import Derived.LoopIn
import Derived.Test.YtmlkeddiagmedaaD
import Derived.Test.YtmlkeddiagmedaaMath
namespace Go.Proofs.Ytmlkeddiagmedaa
open Go.RowKit Go.Shelf

attribute [local go_sem] Oper.semAt_some

def spanV (x : Nat × Nat) : Value := .agg #[.int .i64 x.1, .int .i64 x.2]

theorem index_at (s : ByteArray) (w : World) : ∃ C : Int, C = Lib.indexByte s.data.toList 10 ∧ -1 ≤ C ∧ C ≤ s.size ∧
    Calls Try.prog 28 #[.string s, .string ⟨#[10]⟩] w fun e w' => e = .returned (.int .i64 C) ∧ w = w' := by
  refine ⟨_, rfl, Lib.indexByte_ge _ _, ?_, (Try.strings_Index_one s 10 w).mono fun _ _ ⟨a, b⟩ => ⟨a, b.symm⟩⟩
  by_cases h : Lib.indexByte s.data.toList 10 < 0
  · omega
  · obtain ⟨j, hj⟩ := Int.eq_ofNat_of_zero_le (a := Lib.indexByte s.data.toList 10) (by omega)
    have := (spansL_yes _ 0 0 j hj).1
    simp at this
    omega

theorem extract_drop (s : ByteArray) (c : Nat) (_hc : c ≤ s.size) : (s.extract c s.size).data.toList = s.data.toList.drop c := by
  rw [ByteArray.data_extract, Array.toList_extract, List.extract_eq_take_drop]
  rw [List.take_of_length_le]
  simp

/-- A round keeps the box of the text. -/
def KpT (Bn : Nat) (W W' : World) : Prop := ∀ v, W.cell? ⟨Bn, 0, none⟩ = some v → W'.cell? ⟨Bn, 0, none⟩ = some v
theorem kpT_t {Bn : Nat} {A B C : World} (h : KpT Bn A B) (k : KpT Bn B C) : KpT Bn A C := fun v hv => k v (h v hv)
theorem kpT_b {Bn : Nat} {w : World} (W : World) (l : Nat) (o o' : Obj) (_ : w.heap.size ≤ l) (h : W.heap[l]? = some o) (hc : o.isCells = false) (_ : o.isWalk = false) : KpT Bn W (W.putObj l o') :=
  fun _ hv => cell_kept hv (grownBy_putObj' W l o') (fun r e => by cases e; exact ⟨o, h, hc⟩)
theorem KpT.refl (Bn : Nat) (W : World) : KpT Bn W W := fun _ h => h

set_option maxRecDepth 100000 in
set_option maxHeartbeats 1000000 in
theorem lineSpans1_in (n : Nat) (hn : 1 ≤ n) (l Bn : Nat) (s : ByteArray) (hs : s.size ≤ 140737488351232) (J Jx : List (Nat × Nat) → World → Prop)
    (hY : ∀ pre x W, J pre W → pre.length < (spansAt s 0).length → YieldAt Fence.wide (n - 1) Try.prog l #[spanV x] W fun e W' =>
      (e = .returned (.bool true) ∧ J (pre ++ [x]) W' ∧ KpT Bn W W') ∨ (e = .returned (.bool false) ∧ Jx (pre ++ [x]) W'))
    (W : World) (hBn : W.cell? ⟨Bn, 0, none⟩ = some (.string s)) (h0 : J [] W) :
    CallsIn Fence.wide n Try.prog 48 #[.func (.yield l) #[] #[], .pointer (some ⟨Bn, 0, none⟩)] W fun e W' => (∃ v, e = .returned v) ∧
      ((∃ ys, ys = spansAt s 0 ∧ J ys W') ∨ (∃ pre, pre <+: spansAt s 0 ∧ Jx pre W')) := by
  refine callsIn_of_wp Try.func48 rfl trivial ?_ rfl
  simp only [Try.ntmps48, List.size_toArray, List.length_cons, List.length_nil, Nat.reduceAdd, Nat.reduceSub, Array.replicate_succ, Array.replicate_zero, List.push_toArray, List.append_toArray, List.nil_append, List.cons_append]
  gi_wp2
  gi_loopw [3] (fun p wr => ∃ (pre : List (Nat × Nat)) (c : Nat), p = .int .i64 c ∧ c ≤ s.size ∧ Hid (spansAt s 0 = pre ++ spansAt s c) ∧ J pre wr ∧ wr.cell? ⟨Bn, 0, none⟩ = some (.string s))
    (fun p _ => s.size + 1 - (intOf p).toNat)
  case atStart =>
    exact ⟨[], 0, rfl, Nat.zero_le _, rfl, h0, hBn⟩
  case round =>
    obtain ⟨pre, c, rfl, hc, hx, hJs, hcell⟩ := hrel
    obtain ⟨C, hC, hC0, hC1, hcon⟩ := index_at (s.extract c s.size) wr
    have HC := Lib.hid hC; clear hC
    have Hcon := Lib.hid hcon; clear hcon
    by_cases hneg : C < 0
    · -- the last line
      have hsp : Hid (spansAt s c = [(c, s.size)]) := by
        refine spansAt_no s c hc ?_
        have := HC.out
        rw [extract_drop s c hc] at this
        omega
      obtain ⟨fn, tmps, assign, body, hy, hR⟩ := hY pre (c, s.size) wr hJs (by rw [hx.out, hsp.out]; simp)
      dsimp only [spanV] at hy
      gi_wp2_with (refine ⟨trivial, ?_⟩; gi_at_call 28; refine (callsIn_wide.2 Hcon.out).mono ?_; rintro e w' ⟨rfl, rfl⟩)
      refine hR.mono ?_
      rintro e W3 (⟨rfl, hJ3, hk3⟩ | ⟨rfl, hJx3⟩)
      · gi_wp2
        go_end0
        exact ⟨⟨_, rfl⟩, .inl ⟨_, by rw [hx.out, hsp.out], hJ3⟩⟩
      · gi_wp2
        go_end0
        exact ⟨⟨_, rfl⟩, .inr ⟨_, by rw [hx.out, hsp.out]; exact List.prefix_rfl, hJx3⟩⟩
    · obtain ⟨i, rfl⟩ := Int.eq_ofNat_of_zero_le (a := C) (by omega)
      have hd := HC.out
      rw [extract_drop s c hc] at hd
      obtain ⟨hlt, hsp⟩ := spansAt_yes s c i hc hd.symm
      clear hd
      have HS := Lib.hid hsp; clear hsp
      obtain ⟨fn, tmps, assign, body, hy, hR⟩ := hY pre (c, c + i) wr hJs (by rw [hx.out, HS.out]; simp)
      dsimp only [spanV] at hy
      simp only [Int.natCast_add] at hy
      gi_wp2_with (refine ⟨trivial, ?_⟩; gi_at_call 28; refine (callsIn_wide.2 Hcon.out).mono ?_; rintro e w' ⟨rfl, rfl⟩)
      refine hR.mono ?_
      rintro e W3 (⟨rfl, hJ3, hk3⟩ | ⟨rfl, hJx3⟩)
      · have hc3 : W3.cell? ⟨Bn, 0, none⟩ = some (.string s) := hk3 _ hcell
        have hx2 : Hid (spansAt s 0 = (pre ++ [(c, c + i)]) ++ spansAt s (c + i + 1)) := by
          show spansAt s 0 = _
          rw [hx.out, HS.out]; simp
        gi_wp2
        go_roundw
        case rel => exact ⟨pre ++ [(c, c + i)], c + i + 1, by go_num, by omega, hx2, hJ3, hc3⟩
        case measure => simp [intOf]; omega
      · gi_wp2
        refine bodyPost_ret (results_none rfl _ _ _) rfl ?_
        exact ⟨⟨_, rfl⟩, .inr ⟨pre ++ [(c, c + i)], by rw [hx.out, HS.out]; simp, hJx3⟩⟩

end Go.Proofs.Ytmlkeddiagmedaa
