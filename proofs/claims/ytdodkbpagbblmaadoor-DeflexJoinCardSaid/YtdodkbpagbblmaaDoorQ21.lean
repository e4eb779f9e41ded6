import Derived.Test.YtdodkbpagbblmaaDoorQ19
namespace Go.Proofs.YtdodkbpagbblmaaDoor
open Go Go.RowKit

/-- What a word has, and nothing else: see Q20. -/
def tailW (l : List (Wd × Int)) : List Nat := l.flatMap fun x => 32 :: wordF x.1
/-- Words' texts, one blank between each two. -/
def joinW : List (Wd × Int) → List Nat
  | [] => []
  | x :: l => wordF x.1 ++ tailW l
theorem joinW_snoc (l : List (Wd × Int)) (x : Wd × Int) (h : l ≠ []) : joinW (l ++ [x]) = joinW l ++ [32] ++ wordF x.1 := by
  cases l with
  | nil => exact absurd rfl h
  | cons y l => simp [joinW, tailW]
theorem joinW_pre (l k : List (Wd × Int)) : (joinW l).length ≤ (joinW (l ++ k)).length := by
  cases l with
  | nil => simp [joinW]
  | cons y l => simp [joinW, tailW]
theorem joinW_take (l : List (Wd × Int)) (k : Nat) : (joinW (l.take k)).length ≤ (joinW l).length := by
  have h := joinW_pre (l.take k) (l.drop k)
  rw [List.take_append_drop] at h
  exact h
theorem own_slice {w : World} {b e s n : Nat} {v : Value} {xs : List Value} (h : w.ownsRow b e s v n xs) : ∃ a cap, v = .slice a n cap := by
  rcases h.2 with ⟨rfl, h0⟩ | ⟨g, cap, cur, rfl, _⟩
  · exact ⟨none, 0, by rw [h0]⟩
  · exact ⟨_, cap, rfl⟩
/-- The text of bytes that a slice owns. -/
theorem conv_owns {n₀ : Nat} {w : World} {a : Option Addr} {c : Nat} {l : List Nat} (h : w.ownsRow n₀ 5 1 (.slice a l.length c) l.length (l.map byteV)) : (convert 22 9 (.slice a l.length c)).run Tryd.prog w = .ok (.string (bytesStr l)) w := by
  rcases h.2 with ⟨h1, h0⟩ | ⟨g, cap, cur, h1, _⟩
  · have : l = [] := List.length_eq_zero_iff.1 h0
    subst this
    cases h1
    exact conv_nil w
  · cases h1
    exact conv_own g c w l l.length rfl h
end Go.Proofs.YtdodkbpagbblmaaDoor
