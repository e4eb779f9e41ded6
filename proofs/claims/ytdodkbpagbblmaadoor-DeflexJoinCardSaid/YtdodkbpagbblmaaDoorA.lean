import Derived.Test.YtdodkbpagbblmaaDoorProg
import Derived.RangeFuncNested
import Derived.RangeFuncBound
import Derived.RangeFuncCalls
import Derived.RangeFuncLeaves
import Derived.Deep.RegionWith
import Derived.Deep.RegionHeld3
import Derived.WalkKit
import Derived.WalkSpells
import Derived.WalkLawsBesides
import Derived.Lib.Hide
import Derived.Test.YtdodkbpagbblmaaDoorS
namespace Go.Proofs.YtdodkbpagbblmaaDoor
open Go Go.RowKit

theorem cells_at (s : BS) (i : Nat) (h : i < 4) : [Value.int IntKind.u64 (wdI s 0), Value.int IntKind.u64 (wdI s 1), Value.int IntKind.u64 (wdI s 2), Value.int IntKind.u64 (wdI s 3)][i]? = some (.int .u64 (wdI s i)) := by
  have h : i = 0 ∨ i = 1 ∨ i = 2 ∨ i = 3 := by omega
  rcases h with rfl | rfl | rfl | rfl <;> rfl

theorem two_pow_bv (j : Nat) (hj : j < 64) : IntKind.u64.wrap (2 ^ j) = ((BitVec.twoPow 64 j).toNat : Int) := by
  rw [BitVec.toNat_twoPow]
  have h : 2 ^ j < 2 ^ 64 := Nat.pow_lt_pow_right (by omega) hj
  rw [Nat.mod_eq_of_lt h, IntKind.wrap_u64]
  have e : (2 : Int) ^ j = ((2 ^ j : Nat) : Int) := by simp
  rw [e]
  generalize (2 ^ j : Nat) = X at h
  omega

/-- The word in which a byte lies, with it, as the program reckons it; the others stay. -/
theorem wdI_with (s : BS) (b i : Nat) (hb : b < 256) (h : b / 64 = i) : bits .or .u64 (wdI s i) (IntKind.u64.wrap (2 ^ (b % 64))) = wdI (withB s b) i := by
  rw [two_pow_bv _ (by omega)]; unfold wdI
  rw [bits_or_bv, wd_with s b i hb, if_pos h.symm]
theorem wdI_with_other (s : BS) (b i : Nat) (hb : b < 256) (h : b / 64 ≠ i) : wdI (withB s b) i = wdI s i := by
  unfold wdI
  rw [wd_with s b i hb, if_neg (fun e => h e.symm)]

theorem bit_I (s : BS) (b : Nat) (_hb : b < 256) : (bits .and .u64 (wdI s (b / 64) / 2 ^ (b % 64)) 1 == 1) = s.getLsbD b := by
  have e : wdI s (b / 64) / 2 ^ (b % 64) = ((wd s (b / 64)).toNat / 2 ^ (b % 64) : Nat) := by
    unfold wdI; simp
  have hlt := (wd s (b / 64)).isLt
  have hl2 : (wd s (b / 64)).toNat / 2 ^ (b % 64) < 18446744073709551616 := Nat.lt_of_le_of_lt (Nat.div_le_self _ _) hlt
  have h3 := wd_bit s (b / 64) (b % 64)
  have e4 : 64 * (b / 64) + b % 64 = b := by omega
  have e5 : b % 64 < 64 := by omega
  rw [e4] at h3
  simp only [e5, decide_true, Bool.true_and] at h3
  rw [← h3, BitVec.getLsbD, Nat.testBit_eq_decide_div_mod_eq, e]
  have e1 : (1 : Int) = ((1 : Nat) : Int) := rfl
  rw [e1, bits_and_u64_nat _ 1 hl2 (by omega), Nat.and_one_is_mod]
  generalize (wd s (b / 64)).toNat / 2 ^ (b % 64) = X
  have : X % 2 = 0 ∨ X % 2 = 1 := by omega
  rcases this with h | h <;> rw [h] <;> rfl

set_option maxHeartbeats 1000000 in
theorem with_any (s : BS) (b : Nat) (hb : b < 256) (w : World) : Calls Tryd.prog 77 #[vset s, .int .u8 b] w fun e w' => e = .returned (vset (withB s b)) ∧ Below w.heap.size w w' := by
  have h : b / 64 = 0 ∨ b / 64 = 1 ∨ b / 64 = 2 ∨ b / 64 = 3 := by omega
  rcases h with h | h | h | h
  · have hk := wdI_with s b 0 hb h
    have h1 := wdI_with_other s b 1 hb (by omega)
    have h2 := wdI_with_other s b 2 hb (by omega)
    have h3 := wdI_with_other s b 3 hb (by omega)
    unfold vset
    rw [h1, h2, h3]
    go_enter Tryd.func77, Tryd.ntmps77
    go_wp2
    refine bodyPost_ret (v := .agg #[.int .u64 (wdI (withB s b) 0), .int .u64 (wdI s 1), .int .u64 (wdI s 2), .int .u64 (wdI s 3)]) (by simp [results, Tryd.results77, go_sem]) rfl ⟨rfl, ?_⟩
    exact ((Below.refl _ _).alloc (Nat.le_refl _) _).alloc (by simp) _
  · have hk := wdI_with s b 1 hb h
    have h0 := wdI_with_other s b 0 hb (by omega)
    have h2 := wdI_with_other s b 2 hb (by omega)
    have h3 := wdI_with_other s b 3 hb (by omega)
    unfold vset
    rw [h0, h2, h3]
    go_enter Tryd.func77, Tryd.ntmps77
    go_wp2
    refine bodyPost_ret (v := .agg #[.int .u64 (wdI s 0), .int .u64 (wdI (withB s b) 1), .int .u64 (wdI s 2), .int .u64 (wdI s 3)]) (by simp [results, Tryd.results77, go_sem]) rfl ⟨rfl, ?_⟩
    exact ((Below.refl _ _).alloc (Nat.le_refl _) _).alloc (by simp) _
  · have hk := wdI_with s b 2 hb h
    have h0 := wdI_with_other s b 0 hb (by omega)
    have h1 := wdI_with_other s b 1 hb (by omega)
    have h3 := wdI_with_other s b 3 hb (by omega)
    unfold vset
    rw [h0, h1, h3]
    go_enter Tryd.func77, Tryd.ntmps77
    go_wp2
    refine bodyPost_ret (v := .agg #[.int .u64 (wdI s 0), .int .u64 (wdI s 1), .int .u64 (wdI (withB s b) 2), .int .u64 (wdI s 3)]) (by simp [results, Tryd.results77, go_sem]) rfl ⟨rfl, ?_⟩
    exact ((Below.refl _ _).alloc (Nat.le_refl _) _).alloc (by simp) _
  · have hk := wdI_with s b 3 hb h
    have h0 := wdI_with_other s b 0 hb (by omega)
    have h1 := wdI_with_other s b 1 hb (by omega)
    have h2 := wdI_with_other s b 2 hb (by omega)
    unfold vset
    rw [h0, h1, h2]
    go_enter Tryd.func77, Tryd.ntmps77
    go_wp2
    refine bodyPost_ret (v := .agg #[.int .u64 (wdI s 0), .int .u64 (wdI s 1), .int .u64 (wdI s 2), .int .u64 (wdI (withB s b) 3)]) (by simp [results, Tryd.results77, go_sem]) rfl ⟨rfl, ?_⟩
    exact ((Below.refl _ _).alloc (Nat.le_refl _) _).alloc (by simp) _
end Go.Proofs.YtdodkbpagbblmaaDoor
