import Derived.Deep.QuietTactic
import Derived.BigQuiet
import Derived.IntWalk
import Derived.Deep.RegionLaw
import Derived.Test.YtiihdbchchnncaaE
namespace Go.Proofs.Ytiihdbchchnncaa
open Go Go.RowKit

theorem cells_at (s : BS) (i : Nat) (h : i < 4) : [Value.int IntKind.u64 (wdI s 0), Value.int IntKind.u64 (wdI s 1), Value.int IntKind.u64 (wdI s 2), Value.int IntKind.u64 (wdI s 3)][i]? = some (.int .u64 (wdI s i)) := by
  have h : i = 0 ∨ i = 1 ∨ i = 2 ∨ i = 3 := by omega
  rcases h with rfl | rfl | rfl | rfl <;> rfl

theorem bit_I (s : BS) (b : Nat) (_hb : b < 256) : (bits .and .u64 (wdI s (b / 64) / 2 ^ (b % 64)) 1 == 1) = s.getLsbD b := by
  have e : wdI s (b / 64) / 2 ^ (b % 64) = ((wd s (b / 64)).toNat / 2 ^ (b % 64) : Nat) := by
    unfold wdI; simp
  have hlt := (wd s (b / 64)).isLt
  have hl2 : (wd s (b / 64)).toNat / 2 ^ (b % 64) < 18446744073709551616 := Nat.lt_of_le_of_lt (Nat.div_le_self _ _) hlt
  have h3 := wd_bit s (b / 64) (b % 64)
  have e4 : 64 * (b / 64) + b % 64 = b := by omega
  have e5 : b % 64 < 64 := by omega
  rw [e4] at h3
  simp only [e5, decide_true, Bool.true_and] at h3
  rw [← h3, BitVec.getLsbD, Nat.testBit_eq_decide_div_mod_eq, e]
  have e1 : (1 : Int) = ((1 : Nat) : Int) := rfl
  rw [e1, bits_and_u64_nat _ 1 hl2 (by omega), Nat.and_one_is_mod]
  generalize (wd s (b / 64)).toNat / 2 ^ (b % 64) = X
  have : X % 2 = 0 ∨ X % 2 = 1 := by omega
  rcases this with h | h <;> rw [h] <;> rfl

theorem bit2_I (s : BS) (b : Nat) (hb : b < 256) : (wdI s (b / 64) / 2 ^ (b % 64) % 2 == 1) = s.getLsbD b := by
  rw [← bit_I s b hb]
  have e : wdI s (b / 64) / 2 ^ (b % 64) = ((wd s (b / 64)).toNat / 2 ^ (b % 64) : Nat) := by
    unfold wdI; simp
  have hlt := (wd s (b / 64)).isLt
  have hl2 : (wd s (b / 64)).toNat / 2 ^ (b % 64) < 18446744073709551616 := Nat.lt_of_le_of_lt (Nat.div_le_self _ _) hlt
  rw [e]
  have e1 : (1 : Int) = ((1 : Nat) : Int) := rfl
  have h := bits_and_u64_nat _ 1 hl2 (by omega)
  rw [Nat.and_one_is_mod] at h
  rw [e1, h]
  generalize (wd s (b / 64)).toNat / 2 ^ (b % 64) = X
  have : X % 2 = 0 ∨ X % 2 = 1 := by omega
  rcases this with h | h
  · have : ((X : Int) % 2) = 0 := by omega
    simp [h, this]
  · have : ((X : Int) % 2) = 1 := by omega
    simp [h, this]

/-- Is a number one of so many? -/
def numB (n c : Int) : Bool := decide (0 ≤ n) && decide (n < c)

set_option maxHeartbeats 400000 in
theorem num_any (n c : Int) (w : World) : Calls Try.prog 42 #[.int .i64 n, .int .i64 c] w fun e w' => e = .returned (.bool (numB n c)) ∧ w = w' := by
  unfold numB
  by_cases h : 0 ≤ n
  · have h1 : decide (0 ≤ n) = true := by simpa using h
    rw [h1, Bool.true_and]
    by_cases h2 : n < c
    · have h3 : decide (n < c) = true := by simpa using h2
      rw [h3]
      go_enter Try.func42, Try.ntmps42
      go_wp2
      go_ret
      exact ⟨rfl, rfl⟩
    · have h3 : decide (n < c) = false := by simpa using h2
      rw [h3]
      go_enter Try.func42, Try.ntmps42
      go_wp2
      go_ret
      exact ⟨rfl, rfl⟩
  · have h1 : decide (0 ≤ n) = false := by simpa using h
    rw [h1, Bool.false_and]
    go_enter Try.func42, Try.ntmps42
    go_wp2
    go_ret
    exact ⟨rfl, rfl⟩

set_option maxHeartbeats 400000 in
theorem has_any (s : BS) (b : Nat) (hb : b < 256) (w : World) : Calls Try.prog 89 #[vset s, .int .u8 b] w fun e w' => e = .returned (.bool (s.getLsbD b)) ∧ Below w.heap.size w w' := by
  have hr := bit_I s b hb
  rw [← hr]; clear hr
  unfold vset
  have hc := cells_at s (b / 64) (by omega)
  go_enter Try.func89, Try.ntmps89
  go_wp2
  go_ret
  exact ⟨rfl, (Below.refl _ _).alloc (Nat.le_refl _) _⟩

set_option maxHeartbeats 400000 in
theorem rhas_any (s : BS) (b : Nat) (hb : b < 256) (w : World) : Calls Try.prog 69 #[vset s, .int .u8 b] w fun e w' => e = .returned (.bool (s.getLsbD b)) ∧ Below w.heap.size w w' := by
  have hr := bit2_I s b hb
  rw [← hr]; clear hr
  unfold vset
  have hc := cells_at s (b / 64) (by omega)
  go_enter Try.func69, Try.ntmps69
  go_wp2
  go_ret
  exact ⟨rfl, (Below.refl _ _).alloc (Nat.le_refl _) _⟩

theorem or_zero (s : BS) : (bits .or .u64 (bits .or .u64 (bits .or .u64 (wdI s 0) (wdI s 1)) (wdI s 2)) (wdI s 3) == 0) = (s == 0#256) := by
  have e : bits .or .u64 (bits .or .u64 (bits .or .u64 (wdI s 0) (wdI s 1)) (wdI s 2)) (wdI s 3) = ((wd s 0 ||| wd s 1 ||| wd s 2 ||| wd s 3).toNat : Int) := by
    unfold wdI; rw [bits_or_bv, bits_or_bv, bits_or_bv]
  rw [e, Bool.eq_iff_iff]
  simp only [beq_iff_eq]
  constructor
  · intro h
    have h0 : (wd s 0 ||| wd s 1 ||| wd s 2 ||| wd s 3) = 0#64 := by
      apply BitVec.eq_of_toNat_eq
      show _ = 0
      generalize (wd s 0 ||| wd s 1 ||| wd s 2 ||| wd s 3).toNat = X at h
      omega
    apply set_ext
    intro i hi
    have hz : ∀ j, (wd s 0).getLsbD j = false ∧ (wd s 1).getLsbD j = false ∧ (wd s 2).getLsbD j = false ∧ (wd s 3).getLsbD j = false := fun j => by
      have := congrArg (fun x => BitVec.getLsbD x j) h0
      simp only [BitVec.getLsbD_or, BitVec.getLsbD_zero, Bool.or_eq_false_iff] at this
      exact ⟨this.1.1.1, this.1.1.2, this.1.2, this.2⟩
    apply BitVec.eq_of_getLsbD_eq
    intro j hj
    have hw : (wd 0#256 i).getLsbD j = false := by rw [wd_bit]; simp
    rw [hw]
    have h : i = 0 ∨ i = 1 ∨ i = 2 ∨ i = 3 := by omega
    rcases h with rfl | rfl | rfl | rfl
    · exact (hz j).1
    · exact (hz j).2.1
    · exact (hz j).2.2.1
    · exact (hz j).2.2.2
  · rintro rfl
    decide

set_option maxHeartbeats 400000 in
theorem empty_any (s : BS) (w : World) : Calls Try.prog 34 #[vset s] w fun e w' => e = .returned (.bool (s == 0#256)) ∧ Below w.heap.size w w' := by
  have hr := or_zero s
  rw [← hr]; clear hr
  unfold vset
  go_enter Try.func34, Try.ntmps34
  go_wp2
  go_ret
  exact ⟨rfl, (Below.refl _ _).alloc (Nat.le_refl _) _⟩

set_option maxHeartbeats 400000 in
theorem rsort_any (g : GramM) (n : Int) (w : World) : Calls Try.prog 31 #[gramV g, .int .i64 n] w fun e w' => e = .returned (.bool (numB n g.sorts.length)) ∧ Below w.heap.size w w' := by
  have hB : Hid (Below w.heap.size w (w.alloc (.cells (gramC g) 27))) := (Below.refl _ _).alloc (Nat.le_refl _) _
  unfold numB gramV gramC at *
  by_cases h : 0 ≤ n
  · have h1 : decide (0 ≤ n) = true := by simpa using h
    rw [h1, Bool.true_and]
    by_cases h2 : n < g.sorts.length
    · have h3 : decide (n < g.sorts.length) = true := by simpa using h2
      rw [h3]
      go_enter Try.func31, Try.ntmps31
      go_wp2
      go_ret
      exact ⟨rfl, hB.out⟩
    · have h3 : decide (n < g.sorts.length) = false := by simpa using h2
      rw [h3]
      go_enter Try.func31, Try.ntmps31
      go_wp2
      go_ret
      exact ⟨rfl, hB.out⟩
  · have h1 : decide (0 ≤ n) = false := by simpa using h
    rw [h1, Bool.false_and]
    go_enter Try.func31, Try.ntmps31
    go_wp2
    go_ret
    exact ⟨rfl, hB.out⟩
end Go.Proofs.Ytiihdbchchnncaa
