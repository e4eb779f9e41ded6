import Derived.Test.YtdodkbpagbblmaaDoorQ11
namespace Go.Proofs.YtdodkbpagbblmaaDoor
open Go Go.RowKit

theorem Tryd.info38 : (Tryd.prog.info? 38).map (fun i => (i.zero, i.size, i.bytes)) = some (some (.agg #[.int .i64 0, .int .i64 0, .string ⟨#[]⟩, .int .u64 0, .int .u64 0, .int .u64 0, .int .u64 0, .int .i64 0]), 8, 72) := by kernel_rfl

theorem hexs_none_nil : readS [] = none := by decide
theorem runL_pos (c : UInt8) (r : List UInt8) (h : namB c.toNat = true) : 1 ≤ runL (c :: r) := by rw [runL_cons, if_pos h]; omega
theorem textF_le : ∀ (f : Nat) (l : List UInt8) (p : List Nat × Nat), textF f l = some p → p.2 ≤ l.length := by
  intro f
  induction f with
  | zero => intro l p h; simp [textF] at h
  | succ f ih =>
    intro l p h
    unfold textF at h
    split at h
    · rename_i hp
      cases h
      cases l with
      | nil => simp [Lib.hasPrefix] at hp
      | cons c r => simp
    · split at h
      · cases h
      · rename_i h0
        rw [Option.map_eq_some_iff] at h
        obtain ⟨q, hq, rfl⟩ := h
        have h1 := ih _ _ hq
        have h2 := (byteD_lt l).2
        rw [List.length_drop] at h1
        simp only
        omega
/-- A word is no longer than the text, and not empty. -/
theorem nextW_len (l : List UInt8) (p : Wd × Nat) (h : nextW l = some p) : 1 ≤ p.2 ∧ p.2 ≤ l.length := by
  cases l with
  | nil => cases h
  | cons c r =>
    rw [nextW_of (c :: r) c r rfl c.toNat rfl] at h
    have hr := runL_le (c :: r)
    have hs := setL_le _ (c :: r) (Nat.le_refl _)
    split at h
    · rename_i hl
      split at h
      · cases h
        refine ⟨runL_pos c r ?_, hr⟩
        simp [namB] at hl ⊢
        rcases hl with h | h
        · exact .inl (.inl h)
        · exact .inr h
      · cases h
    · split at h
      · rename_i hd
        rw [Option.map_eq_some_iff] at h
        obtain ⟨q, _, rfl⟩ := h
        exact ⟨runL_pos c r (by simp [namB, hd]), hr⟩
      · split at h
        · rw [Option.map_eq_some_iff] at h
          obtain ⟨q, hq, rfl⟩ := h
          have := textF_le _ _ _ hq
          simp only [List.length_cons]
          omega
        · split at h
          · rw [Option.map_eq_some_iff] at h
            obtain ⟨q, hq, rfl⟩ := h
            refine ⟨?_, hs⟩
            simp only
            rcases Nat.eq_zero_or_pos (setL (c :: r)) with h0 | h0
            · unfold setO at hq
              rw [h0] at hq
              simp [hexs_none_nil] at hq
            · exact h0
          · split at h
            · cases h; simp
            · cases h

/-- The words of a text's rest, that begins at a place; and the place of what can't be read. -/
def lexF : Nat → List UInt8 → Nat → List (Wd × Nat) × Option Nat
  | 0, _, _ => ([], none)
  | f + 1, l, k =>
    if l.drop (skipL l) = [] then ([], none) else
    match nextW (l.drop (skipL l)) with
    | none => ([], some (k + skipL l))
    | some p => ((p.1, k + skipL l) :: (lexF f ((l.drop (skipL l)).drop p.2) (k + skipL l + p.2)).1, (lexF f ((l.drop (skipL l)).drop p.2) (k + skipL l + p.2)).2)
def lexAt (l : List UInt8) (k : Nat) : List (Wd × Nat) × Option Nat := lexF (l.length + 1) l k

theorem lexF_more : ∀ (n : Nat) (l : List UInt8), l.length ≤ n → ∀ f k, l.length + 1 ≤ f → lexF f l k = lexF (l.length + 1) l k := by
  intro n
  induction n with
  | zero =>
    intro l hl f k hf
    have : l = [] := List.length_eq_zero_iff.1 (by omega)
    subst this
    obtain ⟨g, rfl⟩ : ∃ g, f = g + 1 := ⟨f - 1, by simp at hf; omega⟩
    rfl
  | succ n ih =>
    intro l hl f k hf
    obtain ⟨g, rfl⟩ : ∃ g, f = g + 1 := ⟨f - 1, by omega⟩
    unfold lexF
    split
    · rfl
    · split
      · rfl
      · rename_i p hp
        have h1 := nextW_len _ p hp
        have h2 := skipL_le l
        rw [List.length_drop] at h1
        have hd : ((l.drop (skipL l)).drop p.2).length + 1 ≤ l.length := by rw [List.length_drop, List.length_drop]; omega
        rw [ih _ (by omega) g _ (by omega), ih _ (by omega) l.length _ hd]
theorem lexAt_end (l : List UInt8) (k : Nat) (h : l.drop (skipL l) = []) : lexAt l k = ([], none) := by
  unfold lexAt lexF; rw [if_pos h]
theorem lexAt_bad (l : List UInt8) (k : Nat) (h : l.drop (skipL l) ≠ []) (hn : nextW (l.drop (skipL l)) = none) : lexAt l k = ([], some (k + skipL l)) := by
  unfold lexAt lexF; rw [if_neg h, hn]
theorem lexAt_step (l : List UInt8) (k : Nat) (p : Wd × Nat) (h : l.drop (skipL l) ≠ []) (hn : nextW (l.drop (skipL l)) = some p) :
    lexAt l k = ((p.1, k + skipL l) :: (lexAt ((l.drop (skipL l)).drop p.2) (k + skipL l + p.2)).1, (lexAt ((l.drop (skipL l)).drop p.2) (k + skipL l + p.2)).2) := by
  have h1 := nextW_len _ p hn
  have h2 := skipL_le l
  rw [List.length_drop] at h1
  have hd : ((l.drop (skipL l)).drop p.2).length + 1 ≤ l.length := by rw [List.length_drop, List.length_drop]; omega
  unfold lexAt
  conv => lhs; unfold lexF
  rw [if_neg h, hn]
  simp only
  rw [lexF_more _ _ (Nat.le_refl _) l.length _ hd]

def wcells (p : Wd × Nat) : List Value := [.int .i64 p.1.kind, .int .i64 (p.2 : Int), .string p.1.txt, .int .u64 (wdI p.1.set 0), .int .u64 (wdI p.1.set 1), .int .u64 (wdI p.1.set 2), .int .u64 (wdI p.1.set 3), .int .i64 p.1.num]
def cellsW (ws : List (Wd × Nat)) : List Value := ws.flatMap wcells
theorem cellsW_snoc (ws : List (Wd × Nat)) (p : Wd × Nat) : cellsW (ws ++ [p]) = cellsW ws ++ wcells p := by simp [cellsW]
end Go.Proofs.YtdodkbpagbblmaaDoor
