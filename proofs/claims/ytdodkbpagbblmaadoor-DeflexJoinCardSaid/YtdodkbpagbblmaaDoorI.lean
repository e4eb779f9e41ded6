import Derived.Shelf.Abstract
import Derived.Shelf.RegionOpen
import Derived.OwnWalkIn
import Derived.TacticsInMore
import Derived.LoopNIn
import Derived.LoopIn
import Derived.Test.YtdodkbpagbblmaaDoorN
import Derived.Test.YtdodkbpagbblmaaDoorR
namespace Go.Proofs.YtdodkbpagbblmaaDoor
open Go Go.RowKit Go.Shelf

attribute [local go_sem] Oper.semAt_some

/-- A round keeps the program's table. -/
def KpG (W W' : World) : Prop := ∀ j v, W.cell? ⟨3, j, none⟩ = some v → W'.cell? ⟨3, j, none⟩ = some v
theorem kpG_t {A B C : World} (h : KpG A B) (k : KpG B C) : KpG A C := fun j v hv => k j v (h j v hv)
theorem kpG_b {w : World} (W : World) (l : Nat) (o o' : Obj) (_ : w.heap.size ≤ l) (h : W.heap[l]? = some o) (hc : o.isCells = false) (_ : o.isWalk = false) : KpG W (W.putObj l o') :=
  fun _ _ hv => cell_kept hv (grownBy_putObj' W l o') (fun r e => by cases e; exact ⟨o, h, hc⟩)
theorem KpG.refl (W : World) : KpG W W := fun _ _ h => h
theorem KpG.tab {W W' : World} (h : KpG W W') (hT : TabAt 3 Lib.deBruijn64tab W) : TabAt 3 Lib.deBruijn64tab W' := fun j hj => h _ _ (hT j hj)
theorem KpG.below {W W' : World} {n : Nat} (h : Below n W W') (hn : 3 < n) : KpG W W' := fun j v hv => (h.cell (p := ⟨3, j, none⟩) hn).trans hv

set_option maxRecDepth 100000 in
set_option maxHeartbeats 4000000 in
theorem bytes1_in (n : Nat) (hn : 1 ≤ n) (l Bn : Nat) (s : BS) (J Jx : List Nat → World → Prop)
    (hY : ∀ pre (x : Nat) W, x < 256 → J pre W → pre.length < (bytesL s).length → YieldAt Fence.wide (n - 1) Tryd.prog l #[.int .u8 x] W fun e W' =>
      (e = .returned (.bool true) ∧ J (pre ++ [x]) W' ∧ KpG W W') ∨ (e = .returned (.bool false) ∧ Jx (pre ++ [x]) W'))
    (W : World) (hBn : ∀ i, W.cell? ⟨Bn, i, none⟩ = (cset s)[i]?) (hT : TabAt 3 Lib.deBruijn64tab W) (h0 : J [] W) :
    CallsIn Fence.wide n Tryd.prog 79 #[.func (.yield l) #[] #[], .pointer (some ⟨Bn, 0, none⟩)] W fun e W' => (∃ v, e = .returned v) ∧
      ((∃ ys, ys = bytesL s ∧ J ys W') ∨ (∃ pre, pre <+: bytesL s ∧ Jx pre W')) := by
  have c0 : W.cell? ⟨Bn, 0, none⟩ = some (.int .u64 (wdI s 0)) := hBn 0
  have c1 : W.cell? ⟨Bn, 1, none⟩ = some (.int .u64 (wdI s 1)) := hBn 1
  have c2 : W.cell? ⟨Bn, 2, none⟩ = some (.int .u64 (wdI s 2)) := hBn 2
  have c3 : W.cell? ⟨Bn, 3, none⟩ = some (.int .u64 (wdI s 3)) := hBn 3
  have HT := Lib.hid hT
  clear hBn hT
  refine callsIn_of_wp Tryd.func79 rfl trivial ?_ rfl
  simp only [Tryd.ntmps79, List.size_toArray, List.length_cons, List.length_nil, Nat.reduceAdd, Nat.reduceSub, Array.replicate_succ, Array.replicate_zero, List.push_toArray, List.append_toArray, List.nil_append, List.cons_append]
  gi_wp2
  clear c0 c1 c2 c3
  gi_loopw [6] (fun p wr => ∃ (pre : List Nat) (i : Nat), p = .int .i64 i ∧ i ≤ 4 ∧ Hid (bytesL s = pre ++ restW s i) ∧ J pre wr ∧ Hid (TabAt 3 Lib.deBruijn64tab wr))
    (fun p _ => 4 - (intOf p).toNat)
  case atStart => exact ⟨[], 0, rfl, by omega, bytesL_words s, h0, HT⟩
  case round =>
    obtain ⟨pre, i, rfl, hi, hx, hJ, hTr⟩ := hrel
    by_cases hi4 : i < 4
    · have hix : ∀ w', (Instr.index 36 (.agg #[.int .u64 (wdI s 0), .int .u64 (wdI s 1), .int .u64 (wdI s 2), .int .u64 (wdI s 3)]) (.int .i64 i)).run Tryd.prog w' = .ok (.int .u64 (wdI s i)) w' := by
        have h : i = 0 ∨ i = 1 ∨ i = 2 ∨ i = 3 := by omega
        rcases h with rfl | rfl | rfl | rfl
        · exact ix0 _ _ _ _
        · exact ix1 _ _ _ _
        · exact ix2 _ _ _ _
        · exact ix3 _ _ _ _
      gi_wp2
      obtain ⟨wo, rfl⟩ : ∃ wo : World, wo = wr := ⟨_, rfl⟩
      clear hix
      have hdec : decide ((i : Int) < 4) = true := decide_eq_true (by omega)
      rw [hdec]
      clear hdec
      gi_loopw [4] (fun q wr => ∃ (pre : List Nat) (v : Nat), q = .int .u64 v ∧ v < 18446744073709551616 ∧ Hid (bytesL s = pre ++ ((wbits v).map (64 * i + ·) ++ restW s (i + 1))) ∧ J pre wr ∧ Hid (TabAt 3 Lib.deBruijn64tab wr))
        (fun q _ => (intOf q).toNat)
      case atStart =>
        refine ⟨pre, (wd s i).toNat, rfl, (wd s i).isLt, ?_, hJ, hTr⟩
        refine Lib.hid ?_
        rw [hx.out, restW_step s i hi4]; rfl
      case round =>
        clear hJ hTr hx
        obtain ⟨pre, v, rfl, hv, hx, hJ, hTr⟩ := hrel
        by_cases hv0 : v = 0
        · subst hv0
          have hx2 : Hid (bytesL s = pre ++ restW s (i + 1)) := by
            refine Lib.hid ?_
            rw [hx.out, wbits_zero]; rfl
          gi_wp2
          go_roundw
          case rel => exact ⟨pre, i + 1, by go_num, by omega, hx2, hJ, hTr⟩
          case measure => simp [intOf]; omega
        · have hv1 : ¬ (v : Int) = 0 := by omega
          obtain ⟨hb1, hb2, hb3⟩ := bits_low v hv0 hv
          have hz := Lib.hid (Tryd.bits_TrailingZeros64 v hv wr (fun _ => hTr.out))
          have hxx : Hid (bytesL s = (pre ++ [64 * i + Lib.ctz 64 v]) ++ ((wbits (v &&& (v - 1))).map (64 * i + ·) ++ restW s (i + 1))) := by
            refine Lib.hid ?_
            rw [hx.out, hb1]; simp
          have hlen : pre.length < (bytesL s).length := by rw [hxx.out]; simp
          obtain ⟨fn, tmps, assign, body, hy, hR⟩ := hY pre (64 * i + Lib.ctz 64 v) wr (by omega) hJ hlen
          have hband : bits .and .u64 (v : Int) ((v : Int) - 1) = ((v &&& (v - 1) : Nat) : Int) := by
            have := bits_and_u64_nat v (v - 1) hv (by omega)
            rw [← this]; congr 1; omega
          generalize Lib.ctz 64 v = z at hz hxx hb2 hy hR hlen
          clear hb1 hx
          have hcast : ((64 * i + z : Nat) : Int) = (i : Int) * 64 + (z : Int) := by omega
          rw [hcast] at hy
          clear hcast
          gi_wp2_with (refine ⟨trivial, ?_⟩; gi_at_call 80; refine (callsIn_wide.2 hz.out).mono ?_; rintro e w' ⟨rfl, rfl⟩)
          refine hR.mono ?_
          rintro e W3 (⟨rfl, hJ3, hk3⟩ | ⟨rfl, hJx3⟩)
          · have hT3 := Lib.hid (hk3.tab hTr.out)
            gi_wp2
            go_roundw
            case rel => exact ⟨pre ++ [64 * i + z], v &&& (v - 1), rfl, by omega, hxx, hJ3, hT3⟩
            case measure => simp [intOf]; omega
          · gi_wp2
            refine bodyPost_ret (results_none rfl _ _ _) rfl ?_
            exact ⟨⟨_, rfl⟩, .inr ⟨pre ++ [64 * i + z], by rw [hxx.out]; exact List.prefix_append _ _, hJx3⟩⟩
    · obtain rfl : i = 4 := by omega
      gi_wp2
      go_end0
      exact ⟨⟨_, rfl⟩, .inl ⟨pre, by rw [hx.out, restW_end, List.append_nil], hJ⟩⟩
end Go.Proofs.YtdodkbpagbblmaaDoor
