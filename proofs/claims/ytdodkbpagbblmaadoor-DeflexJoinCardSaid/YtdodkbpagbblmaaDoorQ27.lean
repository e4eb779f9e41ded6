import Derived.Test.YtdodkbpagbblmaaDoorQ26
namespace Go.Proofs.YtdodkbpagbblmaaDoor
open Go Go.RowKit

theorem nextW_nl (l b : List UInt8) (h : l ≠ []) : nextW (l ++ 10 :: b) = nextW l := by
  cases l with
  | nil => exact absurd rfl h
  | cons c r =>
    rw [nextW_of (c :: r ++ 10 :: b) c (r ++ 10 :: b) rfl c.toNat rfl, nextW_of (c :: r) c r rfl c.toNat rfl]
    rw [runL_nl, List.take_append_of_le_length (runL_le (c :: r)), numO_nl, textO_nl, setO_nl, List.take_append_of_le_length (by simp : 1 ≤ (c :: r).length)]
    have hs : (setO (c :: r)).map (fun s => ((⟨3, ⟨#[]⟩, s, 0⟩ : Wd), setL (c :: r ++ 10 :: b))) = (setO (c :: r)).map (fun s => ((⟨3, ⟨#[]⟩, s, 0⟩ : Wd), setL (c :: r))) := by
      by_cases h0 : setL (c :: r) = 0
      · rw [setO_zero _ h0]; rfl
      · rw [(setL_nl b _ (c :: r) (Nat.le_refl _)).1 h0]
    rw [hs]

theorem pre47_nl (c : UInt8) (r b : List UInt8) : Lib.hasPrefix (c :: r ++ 10 :: b) [47, 47] = Lib.hasPrefix (c :: r) [47, 47] := by
  cases r with
  | nil => simp [Lib.hasPrefix, List.isPrefixOf]
  | cons d r => simp [Lib.hasPrefix, List.isPrefixOf]
theorem skipL_nl (b : List UInt8) : ∀ (n : Nat) (l : List UInt8), l.length ≤ n → skipL (l ++ 10 :: b) = if skipL l = l.length then l.length + 1 + skipL b else skipL l := by
  intro n
  induction n with
  | zero =>
    intro l h
    have : l = [] := List.length_eq_zero_iff.1 (by omega)
    subst this
    rw [List.nil_append, skipL_blank 10 b (by decide), skipL_nil, List.length_nil, if_pos rfl]
    omega
  | succ n ih =>
    intro l h
    cases l with
    | nil =>
      rw [List.nil_append, skipL_blank 10 b (by decide), skipL_nil, List.length_nil, if_pos rfl]
      omega
    | cons c r =>
      cases hb : blkB c.toNat with
      | true =>
        have := ih r (by simp at h; omega)
        rw [List.cons_append, skipL_blank c _ hb, skipL_blank c _ hb, this, List.length_cons]
        by_cases h1 : skipL r = r.length
        · rw [if_pos h1, if_pos (by omega)]; omega
        · rw [if_neg h1, if_neg (by omega)]
      | false =>
        cases hp : Lib.hasPrefix (c :: r) [47, 47] with
        | true =>
          have hp2 : Lib.hasPrefix (c :: (r ++ 10 :: b)) [47, 47] = true := by rw [← List.cons_append, pre47_nl]; exact hp
          have h2 := lineL_two c r hp
          have h3 := lineL_le (c :: r)
          have hi := ih ((c :: r).drop (lineL (c :: r))) (by rw [List.length_drop]; simp only [List.length_cons] at *; omega)
          have e : lineL (c :: (r ++ 10 :: b)) = lineL (c :: r) := lineL_nl (c :: r) b
          have e2 : (c :: (r ++ 10 :: b)).drop (lineL (c :: r)) = (c :: r).drop (lineL (c :: r)) ++ 10 :: b := by
            rw [← List.cons_append, List.drop_append_of_le_length h3]
          rw [List.cons_append, skipL_comment c _ hb hp2, skipL_comment c _ hb hp, e, e2, hi]
          have h4 := skipL_le ((c :: r).drop (lineL (c :: r)))
          rw [List.length_drop] at h4 ⊢
          by_cases h1 : skipL ((c :: r).drop (lineL (c :: r))) = (c :: r).length - lineL (c :: r)
          · rw [if_pos h1, if_pos (by omega)]; omega
          · rw [if_neg h1, if_neg (by omega)]
        | false =>
          have hp2 : Lib.hasPrefix (c :: (r ++ 10 :: b)) [47, 47] = false := by rw [← List.cons_append, pre47_nl]; exact hp
          rw [List.cons_append, skipL_end c _ hb hp2, skipL_end c _ hb hp, if_neg (by simp)]

/-- What is read of a text hangs on what is behind its blanks alone. -/
theorem lexAt_skip (l m : List UInt8) (k j : Nat) (h1 : l.drop (skipL l) = m.drop (skipL m)) (h2 : k + skipL l = j + skipL m) : lexAt l k = lexAt m j := by
  by_cases he : m.drop (skipL m) = []
  · rw [lexAt_end m j he, lexAt_end l k (h1.trans he)]
  · have hl : l.drop (skipL l) ≠ [] := by rw [h1]; exact he
    cases hn : nextW (m.drop (skipL m)) with
    | none => rw [lexAt_bad m j he hn, lexAt_bad l k hl (by rw [h1]; exact hn), h2]
    | some p => rw [lexAt_step m j p he hn, lexAt_step l k p hl (by rw [h1]; exact hn), h1, h2]

/-- The words of a text, a line's end, and another text. -/
theorem lexAt_nl (b : List UInt8) : ∀ (n : Nat) (l : List UInt8), l.length ≤ n → ∀ k, lexAt (l ++ 10 :: b) k =
    match (lexAt l k).2 with
    | some p => ((lexAt l k).1, some p)
    | none => ((lexAt l k).1 ++ (lexAt b (k + l.length + 1)).1, (lexAt b (k + l.length + 1)).2) := by
  intro n
  induction n with
  | zero =>
    intro l h k
    have : l = [] := List.length_eq_zero_iff.1 (by omega)
    subst this
    rw [lexAt_end [] k rfl, List.nil_append]
    refine (lexAt_skip (10 :: b) b k (k + 1) ?_ ?_).trans ?_
    · rw [skipL_blank 10 b (by decide)]; rfl
    · rw [skipL_blank 10 b (by decide)]; omega
    · simp
  | succ n ih =>
    intro l h k
    have hs := skipL_nl b _ l (Nat.le_refl _)
    by_cases he : skipL l = l.length
    · rw [if_pos he] at hs
      rw [lexAt_end l k (by rw [he]; exact List.drop_length)]
      simp only [List.nil_append]
      refine lexAt_skip _ _ _ _ ?_ (by rw [hs]; omega)
      rw [hs, show l.length + 1 + skipL b = l.length + (skipL b + 1) by omega, ← List.drop_drop, List.drop_left]
      rfl
    · rw [if_neg he] at hs
      have hle := skipL_le l
      have hd : (l ++ 10 :: b).drop (skipL (l ++ 10 :: b)) = l.drop (skipL l) ++ 10 :: b := by rw [hs, List.drop_append_of_le_length hle]
      have hne : l.drop (skipL l) ≠ [] := fun e => by
        have := congrArg List.length e
        rw [List.length_drop, List.length_nil] at this
        omega
      have hne2 : (l ++ 10 :: b).drop (skipL (l ++ 10 :: b)) ≠ [] := by rw [hd]; simp
      cases hn : nextW (l.drop (skipL l)) with
      | none =>
        rw [lexAt_bad l k hne hn, lexAt_bad (l ++ 10 :: b) k hne2 (by rw [hd, nextW_nl _ _ hne]; exact hn), hs]
      | some p =>
        have hp := nextW_len _ p hn
        rw [lexAt_step l k p hne hn, lexAt_step (l ++ 10 :: b) k p hne2 (by rw [hd, nextW_nl _ _ hne]; exact hn), hd, hs, List.drop_append_of_le_length hp.2]
        have hl2 : ((l.drop (skipL l)).drop p.2).length + p.2 + skipL l = l.length := by
          rw [List.length_drop] at hp ⊢
          rw [List.length_drop]
          omega
        rw [ih ((l.drop (skipL l)).drop p.2) (by omega) (k + skipL l + p.2)]
        rw [show k + skipL l + p.2 + ((l.drop (skipL l)).drop p.2).length + 1 = k + l.length + 1 by omega]
        cases (lexAt ((l.drop (skipL l)).drop p.2) (k + skipL l + p.2)).2 with
        | none => rfl
        | some q => rfl

/-- Words as far behind. -/
def shiftW (d : Nat) (ws : List (Wd × Nat)) : List (Wd × Nat) := ws.map fun p => (p.1, p.2 + d)
theorem lexAt_shift (d : Nat) : ∀ (n : Nat) (l : List UInt8), l.length ≤ n → ∀ k, lexAt l (k + d) = (shiftW d (lexAt l k).1, (lexAt l k).2.map (· + d)) := by
  intro n
  induction n with
  | zero =>
    intro l h k
    have : l = [] := List.length_eq_zero_iff.1 (by omega)
    subst this
    rw [lexAt_end [] _ rfl, lexAt_end [] _ rfl]
    rfl
  | succ n ih =>
    intro l h k
    by_cases he : l.drop (skipL l) = []
    · rw [lexAt_end l _ he, lexAt_end l _ he]; rfl
    · cases hn : nextW (l.drop (skipL l)) with
      | none =>
        rw [lexAt_bad l _ he hn, lexAt_bad l _ he hn]
        simp [shiftW]
        omega
      | some p =>
        have hp := nextW_len _ p hn
        have hl2 : ((l.drop (skipL l)).drop p.2).length + p.2 + skipL l = l.length := by
          have hle := skipL_le l
          rw [List.length_drop] at hp ⊢
          rw [List.length_drop]
          omega
        rw [lexAt_step l _ p he hn, lexAt_step l _ p he hn]
        rw [show k + d + skipL l + p.2 = k + skipL l + p.2 + d by omega, ih _ (by omega) (k + skipL l + p.2)]
        simp [shiftW]
        omega
/-- The words of two texts with a line's end between. -/
theorem lexAt_join (a b : List UInt8) : lexAt (a ++ 10 :: b) 0 =
    match (lexAt a 0).2 with
    | some p => ((lexAt a 0).1, some p)
    | none => ((lexAt a 0).1 ++ shiftW (a.length + 1) (lexAt b 0).1, (lexAt b 0).2.map (· + (a.length + 1))) := by
  rw [lexAt_nl b _ a (Nat.le_refl _) 0]
  have h := lexAt_shift (a.length + 1) _ b (Nat.le_refl _) 0
  rw [show 0 + a.length + 1 = 0 + (a.length + 1) by omega, h]
end Go.Proofs.YtdodkbpagbblmaaDoor
