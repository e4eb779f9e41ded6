import Derived.Test.YtdodkbpagbblmaaDoorQ13
import Derived.Test.YtdodkbpagbblmaaDoorQ22
namespace Go.Proofs.YtdodkbpagbblmaaDoor
open Go Go.RowKit

theorem lex_ok (t : ByteArray) (ws : List (Wd × Nat)) (h : lexAt t.data.toList 0 = (ws, none)) (ht : t.size ≤ 1048576) (w : World) (hG : GlobD w) :
    Calls Tryd.prog 7 #[.string t] w fun e w' => ∃ v, e = .returned (.tuple #[v, .int .i64 0, .int .i64 0]) ∧ w'.ownsRow w.heap.size 38 8 v ws.length (cellsW ws) ∧ Below w.heap.size w w' := by
  refine (lex_any t w hG).mono ?_
  rintro e w' ⟨hB, h1 | h1 | h1⟩
  · omega
  · obtain ⟨_, a, ha, _⟩ := h1
    rw [h] at ha
    cases ha
  · obtain ⟨_, _, v, he, ho⟩ := h1
    rw [h] at ho
    exact ⟨v, he, ho, hB⟩
theorem lex_bad (t : ByteArray) (a : Nat) (h : (lexAt t.data.toList 0).2 = some a) (ht : t.size ≤ 1048576) (w : World) (hG : GlobD w) :
    Calls Tryd.prog 7 #[.string t] w fun e w' => e = .returned (.tuple #[.slice none 0 0, .int .i64 a, .int .i64 130]) ∧ Below w.heap.size w w' := by
  refine (lex_any t w hG).mono ?_
  rintro e w' ⟨hB, h1 | h1 | h1⟩
  · omega
  · obtain ⟨_, b, hb, he⟩ := h1
    rw [h] at hb
    cases hb
    exact ⟨he, hB⟩
  · obtain ⟨_, h2, _⟩ := h1
    rw [h] at h2
    cases h2

/-- Words with their places as numbers. -/
def withI (ws : List (Wd × Nat)) : List (Wd × Int) := ws.map fun p => (p.1, (p.2 : Int))
theorem cellsW_at (ws : List (Wd × Nat)) : ∀ (i : Nat) (x : Wd × Nat), ws[i]? = some x → ∀ j, j < 8 → (cellsW ws)[i * 8 + j]? = (wcells x)[j]? := by
  induction ws with
  | nil => intro i x hx; simp at hx
  | cons r rs ih =>
    intro i x hx j hj
    have hc : cellsW (r :: rs) = wcells r ++ cellsW rs := by simp [cellsW]
    rw [hc]
    cases i with
    | zero =>
      simp at hx
      subst hx
      rw [Nat.zero_mul, Nat.zero_add, List.getElem?_append_left (by simp [wcells]; omega)]
    | succ i =>
      have h := ih i x (by simpa using hx) j hj
      rw [List.getElem?_append_right (by simp [wcells]; omega), ← h]
      congr 1
      simp [wcells]
      omega
/-- Words as they lie behind a slice that owns them. -/
theorem own_rowW {w : World} {n₀ : Nat} {v : Value} {ws : List (Wd × Nat)} (h : w.ownsRow n₀ 38 8 v ws.length (cellsW ws)) : ∃ a cap, v = .slice a ws.length cap ∧ RowW w a (withI ws) := by
  rcases h.2 with ⟨rfl, h0⟩ | ⟨g, cap, cur, rfl, _⟩
  · have : ws = [] := List.length_eq_zero_iff.1 h0
    subst this
    exact ⟨none, 0, rfl, fun i x hx => by simp [withI] at hx⟩
  · refine ⟨_, cap, rfl, fun i x hx => ?_⟩
    obtain ⟨y, hy, rfl⟩ : ∃ y, ws[i]? = some y ∧ (y.1, (y.2 : Int)) = x := by
      unfold withI at hx
      rw [List.getElem?_map] at hx
      simpa using hx
    have hi := (List.getElem?_eq_some_iff.1 hy).1
    have hc := cellsW_at ws i y hy
    have k : ∀ j, j < 8 → w.cell? ⟨g, 0 + i * 8 + j, none⟩ = (wcells y)[j]? := fun j hj => by
      rw [Nat.zero_add, h.cellAt (i * 8 + j) (by omega)]; exact hc j hj
    exact ⟨g, 0, rfl, k 0 (by omega), k 1 (by omega), k 2 (by omega), k 3 (by omega), k 4 (by omega), k 5 (by omega), k 6 (by omega), k 7 (by omega)⟩
theorem withI_len (ws : List (Wd × Nat)) : (withI ws).length = ws.length := by simp [withI]

theorem num_any (n : Int) (w : World) : Calls Tryd.prog 10 #[.int .i64 n] w fun e w' => e = .returned (.int .i64 n) ∧ w = w' := by
  go_enter Tryd.func10, Tryd.ntmps10
  go_wp2
  go_ret
  simp
end Go.Proofs.YtdodkbpagbblmaaDoor
