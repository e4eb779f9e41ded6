import Derived.Test.YtdodkbpagbblmaaDoorS
import Derived.Lib.TrailingZeros
namespace Go.Proofs.YtdodkbpagbblmaaDoor
open Go Go.RowKit

/-- The places of the bits of a word, rising. -/
def wbits (w : Nat) : List Nat := (List.range' 0 64).filter (fun j => w.testBit j)

theorem filter_at (p q : Nat → Bool) (k n : Nat) (hk : k < n) (h0 : ∀ j, j < k → p j = false) (h1 : p k = true) (hq : ∀ j, q j = (p j && decide (j ≠ k))) :
    (List.range' 0 n).filter p = k :: (List.range' 0 n).filter q := by
  have e : List.range' 0 n = List.range' 0 k ++ (k :: List.range' (k + 1) (n - (k + 1))) := by
    have h2 : List.range' 0 n = List.range' 0 k ++ List.range' k (n - k) := by
      have := List.range'_append_1 (s := 0) (m := k) (n := n - k)
      rw [Nat.zero_add] at this
      rw [this]; congr 1; omega
    rw [h2]
    have h3 : n - k = (n - (k + 1)) + 1 := by omega
    rw [h3, List.range'_succ]
  have p0 : (List.range' 0 k).filter p = [] := by
    rw [List.filter_eq_nil_iff]; intro j hj
    rw [List.mem_range'_1] at hj
    rw [h0 j (by omega)]; simp
  have q0 : (List.range' 0 k).filter q = [] := by
    rw [List.filter_eq_nil_iff]; intro j hj
    rw [List.mem_range'_1] at hj
    rw [hq, h0 j (by omega)]; simp
  have qk : q k = false := by rw [hq]; simp
  rw [e, List.filter_append, List.filter_append, p0, q0, List.filter_cons, List.filter_cons, h1, qk]
  simp only [List.nil_append, if_true, Bool.false_eq_true, if_false]
  congr 1
  apply List.filter_congr
  intro j hj
  rw [List.mem_range'_1] at hj
  rw [hq]
  have : j ≠ k := by omega
  simp [this]

theorem bits_low (w : Nat) (h0 : w ≠ 0) (h : w < 2 ^ 64) : wbits w = Lib.ctz 64 w :: wbits (w &&& (w - 1)) ∧ Lib.ctz 64 w < 64 ∧ w &&& (w - 1) < w := by
  obtain ⟨m, hm, hk⟩ := Lib.ctzFrom_spec 64 w (by omega) h
  have hc : Lib.ctz 64 w = Lib.ctzFrom 64 w := by unfold Lib.ctz; simp [h0]
  rw [hc]
  generalize Lib.ctzFrom 64 w = k at hm hk
  have hp : 0 < 2 ^ k := Nat.two_pow_pos k
  have hw : ∀ j, w.testBit j = (decide (k ≤ j) && (2 * m + 1).testBit (j - k)) := by
    intro j; rw [hm, Nat.testBit_two_pow_mul]
  have hw1 : w - 1 = 2 ^ k * (2 * m) + (2 ^ k - 1) := by
    rw [hm, Nat.mul_add]; omega
  have hv : ∀ j, k ≤ j → (w - 1).testBit j = (2 * m).testBit (j - k) := by
    intro j hj
    rw [hw1, Nat.testBit_two_pow_mul_add _ (by omega)]
    simp [Nat.not_lt.2 hj]
  have hb0 : (2 * m + 1).testBit 0 = true := by simp [Nat.testBit_zero]
  have hb1 : (2 * m).testBit 0 = false := by simp [Nat.testBit_zero]
  have hs : ∀ n, (2 * m + 1).testBit (n + 1) = (2 * m).testBit (n + 1) := by
    intro n
    rw [Nat.testBit_succ, Nat.testBit_succ]
    congr 1; omega
  refine ⟨?_, hk, ?_⟩
  · refine filter_at _ _ k 64 hk ?_ ?_ ?_
    · intro j hj; rw [hw]; simp [Nat.not_le.2 hj]
    · rw [hw]; simp [hb0]
    · intro j
      rw [Nat.testBit_and]
      by_cases h1 : j < k
      · rw [hw]; simp [Nat.not_le.2 h1]
      · by_cases h2 : j = k
        · subst h2; rw [hv j (Nat.le_refl _)]; simp [hb1]
        · rw [hw, hv j (by omega)]
          obtain ⟨n, hn⟩ : ∃ n, j - k = n + 1 := ⟨j - k - 1, by omega⟩
          rw [hn, hs]
          simp [h2]
  · have h1 : w &&& (w - 1) ≤ w - 1 := Nat.and_le_right
    omega

theorem wbits_zero : wbits 0 = [] := by unfold wbits; rw [List.filter_eq_nil_iff]; simp
theorem wbits_lt (w j : Nat) (h : j ∈ wbits w) : j < 64 ∧ w.testBit j = true := by
  unfold wbits at h
  rw [List.mem_filter, List.mem_range'_1] at h
  exact ⟨by omega, h.2⟩

/-- A set's bytes, rising. -/
def bytesL (s : BS) : List Nat := (List.range' 0 256).filter (fun j => s.getLsbD j)

/-- The bytes of one word. -/
def wordL (s : BS) (i : Nat) : List Nat := (wbits (wd s i).toNat).map (64 * i + ·)
/-- Those of the words from the i-th on. -/
def restF (s : BS) : Nat → Nat → List Nat
  | 0, _ => []
  | n + 1, i => wordL s i ++ restF s n (i + 1)
def restW (s : BS) (i : Nat) : List Nat := restF s (4 - i) i
theorem restW_step (s : BS) (i : Nat) (h : i < 4) : restW s i = wordL s i ++ restW s (i + 1) := by
  unfold restW
  rw [show 4 - i = (4 - (i + 1)) + 1 by omega, restF]
theorem restW_end (s : BS) : restW s 4 = [] := rfl

theorem word_part (s : BS) (i : Nat) : (List.range' (64 * i) 64).filter (fun j => s.getLsbD j) = (wbits (wd s i).toNat).map (64 * i + ·) := by
  have e : List.range' (64 * i) 64 = (List.range' 0 64).map (64 * i + ·) := by
    rw [List.map_add_range']; simp
  rw [e, List.filter_map]
  congr 1
  unfold wbits
  apply List.filter_congr
  intro j hj
  rw [List.mem_range'_1] at hj
  show s.getLsbD (64 * i + j) = (wd s i).toNat.testBit j
  rw [← BitVec.getLsbD, wd_bit]
  simp [show j < 64 by omega]

theorem bytesL_words (s : BS) : bytesL s = restW s 0 := by
  rw [restW_step s 0 (by omega), restW_step s 1 (by omega), restW_step s 2 (by omega), restW_step s 3 (by omega), restW_end, List.append_nil]
  unfold wordL
  rw [← word_part, ← word_part, ← word_part, ← word_part, ← List.filter_append, ← List.filter_append, ← List.filter_append]
  have h3 : List.range' 128 64 ++ List.range' 192 64 = List.range' 128 128 := List.range'_append_1 (s := 128) (m := 64) (n := 64)
  have h2 : List.range' 64 64 ++ List.range' 128 128 = List.range' 64 192 := List.range'_append_1 (s := 64) (m := 64) (n := 128)
  have h1 : List.range' 0 64 ++ List.range' 64 192 = List.range' 0 256 := List.range'_append_1 (s := 0) (m := 64) (n := 192)
  simp only [Nat.reduceMul, Nat.reduceAdd]
  rw [h3, h2, h1]
  rfl

theorem mem_bytesL (s : BS) (b : Nat) : b ∈ bytesL s ↔ b < 256 ∧ s.getLsbD b = true := by
  unfold bytesL
  rw [List.mem_filter, List.mem_range'_1]
  constructor
  · rintro ⟨h1, h2⟩; exact ⟨by omega, h2⟩
  · rintro ⟨h1, h2⟩; exact ⟨by omega, h2⟩

theorem length_bytesL (s : BS) : (bytesL s).length ≤ 256 := by
  unfold bytesL
  refine Nat.le_trans (List.length_filter_le _ _) ?_
  rw [List.length_range']
  exact Nat.le_refl _

end Go.Proofs.YtdodkbpagbblmaaDoor
