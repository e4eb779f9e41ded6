import Derived.Test.YtegmoeeeomjkgaaDoorK
import Derived.Test.YtegmoeeeomjkgaaDoorJ
import Derived.Test.YtegmoeeeomjkgaaDoorN
namespace Go.Proofs.YtegmoeeeomjkgaaDoor
open Go Go.RowKit

theorem pc_len (x : Nat) : ∀ n, pc x n = ((List.range' 0 n).filter (fun j => x.testBit j)).length := by
  intro n
  induction n with
  | zero => rfl
  | succ n ih =>
    rw [List.range'_1_concat, List.filter_append, List.length_append, ← ih]
    show pc x n + (if x.testBit n then 1 else 0) = _
    cases h : x.testBit n <;> simp [h]

theorem cnt_len (s : BS) : cnt s = (bytesL s).length := by
  unfold cnt bytesL
  rw [pc_len]
  rfl

theorem within_eq (a b : BS) : (a &&& ~~~b == 0#256) = (a &&& b == a) := by
  rw [Bool.eq_iff_iff, beq_iff_eq, beq_iff_eq]
  constructor
  · intro h
    apply BitVec.eq_of_getLsbD_eq; intro j hj
    have h1 := congrArg (fun x => BitVec.getLsbD x j) h
    simp only [BitVec.getLsbD_and, BitVec.getLsbD_not, hj, decide_true, Bool.true_and, BitVec.getLsbD_zero] at h1
    rw [BitVec.getLsbD_and]
    cases ha : a.getLsbD j <;> cases hb : b.getLsbD j <;> simp_all
  · intro h
    apply BitVec.eq_of_getLsbD_eq; intro j hj
    have h1 := congrArg (fun x => BitVec.getLsbD x j) h
    simp only [BitVec.getLsbD_and] at h1
    simp only [BitVec.getLsbD_and, BitVec.getLsbD_not, hj, decide_true, Bool.true_and, BitVec.getLsbD_zero]
    cases ha : a.getLsbD j <;> cases hb : b.getLsbD j <;> simp_all

/-- A rising list's k-th is k at least. -/
theorem rising_ge : ∀ (l : List Nat), l.Pairwise (· < ·) → ∀ (k x : Nat), l[k]? = some x → k ≤ x := by
  intro l hl k
  induction k with
  | zero => intro x _; omega
  | succ k ih =>
    intro x hx
    have hk : k + 1 < l.length := (List.getElem?_eq_some_iff.1 hx).1
    have h1 := ih l[k] (List.getElem?_eq_getElem (by omega))
    have h2 := (List.pairwise_iff_getElem.1 hl) k (k + 1) (by omega) hk (by omega)
    have h3 : l[k + 1] = x := by
      rw [List.getElem?_eq_getElem hk] at hx; exact Option.some.inj hx
    omega
theorem bytesL_rising (s : BS) : (bytesL s).Pairwise (· < ·) := by
  unfold bytesL
  exact List.Pairwise.filter _ List.pairwise_lt_range'
theorem bytesL_ge (s : BS) (k x : Nat) (h : (bytesL s)[k]? = some x) : k ≤ x := rising_ge _ (bytesL_rising s) k x h

theorem rngs_take_nil (l : List Nat) (k : Nat) (rs : List (Nat × Nat)) (r : Nat × Nat) (h : rngs (l.take k) = rs ++ [r]) : 0 < k := by
  cases k with
  | zero => simp [rngs] at h
  | succ k => omega

/-- The document's step, written otherwise. -/
theorem rstep_other (rs : List (Nat × Nat)) (r : Nat × Nat) (x : Nat) (hr : r.2 < 256) (hx : x < 256) (hx0 : 0 < x) :
    rstep (rs ++ [r]) x = if r.2 + 1 = x then rs ++ [(r.1, x)] else rs ++ [r] ++ [(x, x)] := by
  simp only [rstep, List.getLast?_append, List.getLast?_singleton, Option.some_or]
  have : ((x + 256 - r.2) % 256 = 1) ↔ (r.2 + 1 = x) := by omega
  simp [this]
end Go.Proofs.YtegmoeeeomjkgaaDoor
