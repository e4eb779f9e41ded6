import Derived.Test.YtdodkbpagbblmaaDoorD
namespace Go.Proofs.YtdodkbpagbblmaaDoor
open Go Go.RowKit

/-- Ranges as they lie behind a slice. -/
def RowR (w : World) (a : Option Addr) (rs : List (Nat × Nat)) : Prop :=
  ∀ (i : Nat) (x : Nat × Nat), rs[i]? = some x → ∃ b off, a = some ⟨b, off, none⟩ ∧ w.cell? ⟨b, off + i * 2, none⟩ = some (.int .u8 x.1) ∧ w.cell? ⟨b, off + i * 2 + 1, none⟩ = some (.int .u8 x.2)
def SmallR (rs : List (Nat × Nat)) : Prop := ∀ x ∈ rs, x.1 < 256 ∧ x.2 < 256

theorem lt_of_cell {w : World} {b i : Nat} {v : Value} (h : w.cell? ⟨b, i, none⟩ = some v) : b < w.heap.size := by
  unfold World.cell? at h
  by_cases hb : b < w.heap.size
  · exact hb
  · simp [Array.getElem?_eq_none (Nat.le_of_not_lt hb)] at h

theorem RowR.below {w w' : World} {a : Option Addr} {rs : List (Nat × Nat)} {n : Nat} (h : RowR w a rs) (hB : Below n w w') (hn : w.heap.size ≤ n) : RowR w' a rs := by
  intro i x hx
  obtain ⟨b, off, e, h1, h2⟩ := h i x hx
  have := lt_of_cell h1
  exact ⟨b, off, e, (hB.cell (p := ⟨b, _, none⟩) (show b < n by omega)).trans h1, (hB.cell (p := ⟨b, _, none⟩) (show b < n by omega)).trans h2⟩

/-- What the ranges make together; none where one is wrong. -/
def makeR (s : BS) : List (Nat × Nat) → Option BS
  | [] => some s
  | r :: rs => if r.2 < r.1 then none else makeR (addR s r) rs

theorem makeR_snoc (s : BS) (rs : List (Nat × Nat)) (r : Nat × Nat) (u : BS) (h : makeR s rs = some u) : makeR s (rs ++ [r]) = if r.2 < r.1 then none else some (addR u r) := by
  induction rs generalizing s with
  | nil => simp only [makeR, Option.some.injEq] at h; subst h; simp [makeR]
  | cons x rs ih =>
    simp only [makeR, List.cons_append] at h ⊢
    split at h
    · cases h
    · rename_i hx; rw [if_neg hx]; exact ih _ h

theorem makeR_none (s : BS) (rs qs : List (Nat × Nat)) (h : makeR s rs = none) : makeR s (rs ++ qs) = none := by
  induction rs generalizing s with
  | nil => simp [makeR] at h
  | cons x rs ih =>
    simp only [makeR, List.cons_append] at h ⊢
    split at h
    · rename_i hx; rw [if_pos hx]
    · rename_i hx; rw [if_neg hx]; exact ih _ h

/-- Make's answer. -/
def makeV (rs : List (Nat × Nat)) : Value :=
  match makeR 0#256 rs with
  | some s => .tuple #[vset s, .int .i64 0]
  | none => .tuple #[vset 0#256, .int .i64 4]

theorem below_at {n m : Nat} {w W : World} (h : Below n w W) (hm : m ≤ n) : Below m w W := h.mono hm

end Go.Proofs.YtdodkbpagbblmaaDoor
