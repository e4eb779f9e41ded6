import Derived.Test.YtdodkbpagbblmaaDoorQ12
namespace Go.Proofs.YtdodkbpagbblmaaDoor
open Go Go.RowKit

/-! ### a text, a line's end, another text -/
theorem runL_nl (l b : List UInt8) : runL (l ++ 10 :: b) = runL l := by
  induction l with
  | nil => rw [List.nil_append, runL_cons, if_neg (by decide)]; rfl
  | cons c r ih => rw [List.cons_append, runL_cons, runL_cons, ih]
theorem lineL_nl (l b : List UInt8) : lineL (l ++ 10 :: b) = lineL l := by
  induction l with
  | nil => rfl
  | cons c r ih =>
    rw [List.cons_append]
    unfold lineL
    rw [ih]
theorem hexD_nl : hexD (10 : UInt8).toNat = none := by decide
theorem escD_cons (a b : UInt8) (r : List UInt8) : escD (a :: b :: r) = if b.toNat = 110 then (10, 2) else if b.toNat = 116 then (9, 2) else if b.toNat = 114 then (13, 2) else if b.toNat = 34 ∨ b.toNat = 92 then (b.toNat, 2)
    else if b.toNat = 120 ∧ 2 ≤ r.length then (match hexs 0 (r.take 2) with
      | some n => (n % 256, 4)
      | none => (0, 0))
    else (0, 0) := rfl
theorem byteD_cons (c : UInt8) (r : List UInt8) : byteD (c :: r) = if c.toNat = 92 then escD (c :: r) else if 32 ≤ c.toNat ∧ c.toNat ≤ 126 then (c.toNat, 1) else (0, 0) := rfl
theorem escD_nl (c : UInt8) (r b : List UInt8) : escD (c :: (r ++ 10 :: b)) = escD (c :: r) := by
  match r with
  | [] => rfl
  | [d] =>
    have h : ∀ x, hexs 0 ((10 :: x : List UInt8).take 2) = none := fun x => rfl
    show escD (c :: d :: 10 :: b) = escD [c, d]
    rw [escD_cons, escD_cons, h]
    simp
  | [d, e] =>
    have h : hexs 0 ((e :: 10 :: b : List UInt8).take 2) = none := by
      show (match hexD e.toNat with | none => none | some q => hexs (0 * 16 + q) [10]) = none
      cases hexD e.toNat with
      | none => rfl
      | some q => rfl
    show escD (c :: d :: e :: 10 :: b) = escD [c, d, e]
    rw [escD_cons, escD_cons, h]
    simp
  | d :: e :: f :: r =>
    show escD (c :: d :: e :: f :: (r ++ 10 :: b)) = escD (c :: d :: e :: f :: r)
    rw [escD_cons, escD_cons]
    simp
theorem byteD_nl (l b : List UInt8) : byteD (l ++ 10 :: b) = byteD l := by
  cases l with
  | nil => rfl
  | cons c r =>
    rw [List.cons_append]
    rw [byteD_cons, byteD_cons, escD_nl]
theorem pre34_nl (l b : List UInt8) : Lib.hasPrefix (l ++ 10 :: b) [34] = Lib.hasPrefix l [34] := by
  cases l with
  | nil => rfl
  | cons c r => simp [Lib.hasPrefix, List.isPrefixOf]
theorem textF_nl (b : List UInt8) : ∀ (f : Nat) (l : List UInt8), textF f (l ++ 10 :: b) = textF f l := by
  intro f
  induction f with
  | zero => intro l; rfl
  | succ f ih =>
    intro l
    unfold textF
    rw [pre34_nl, byteD_nl, List.drop_append_of_le_length (byteD_lt l).2, ih]
theorem textO_nl (l b : List UInt8) : textO (l ++ 10 :: b) = textO l := by
  unfold textO
  rw [textF_nl]
  exact textF_more _ l (Nat.le_refl _) _ (by simp)
theorem numO_nl (l b : List UInt8) : numO (l ++ 10 :: b) = numO l := by
  unfold numO
  rw [runL_nl, List.take_append_of_le_length (runL_le l)]
theorem setL_nl (b : List UInt8) : ∀ (n : Nat) (l : List UInt8), l.length ≤ n → (setL l ≠ 0 → setL (l ++ 10 :: b) = setL l) ∧ (setL l = 0 → setL (l ++ 10 :: b) = 0 ∨ l.length < setL (l ++ 10 :: b)) := by
  intro n
  induction n with
  | zero =>
    intro l h
    have : l = [] := List.length_eq_zero_iff.1 (by omega)
    subst this
    exact ⟨fun h => absurd rfl h, fun _ => by simp only [List.nil_append, List.length_nil]; omega⟩
  | succ n ih =>
    intro l h
    match l, h with
    | [], _ => exact ⟨fun h => absurd rfl h, fun _ => by simp only [List.nil_append, List.length_nil]; omega⟩
    | [c], _ =>
      have e1 : setL ([c] ++ 10 :: b) = if c.toNat = 92 then (if setL b = 0 then 0 else setL b + 2) else if c.toNat = 93 then 1 else if setL (10 :: b) = 0 then 0 else setL (10 :: b) + 1 := by
        show setL (c :: 10 :: b) = _
        rw [setL_cons]
      have e2 : setL [c] = if c.toNat = 92 then 0 else if c.toNat = 93 then 1 else 0 := by
        rw [setL_cons]
        simp [setL]
      rw [e1, e2]
      simp only [List.length_singleton]
      refine ⟨fun h => ?_, fun h => ?_⟩
      · split at h
        · exact absurd rfl h
        · split at h
          · rename_i h1 h2
            rw [if_neg h1, if_pos h2, if_neg h1, if_pos h2]
          · exact absurd rfl h
      · split
        · split <;> omega
        · split
          · rename_i h1 h2
            rw [if_neg h1, if_pos h2] at h
            omega
          · split <;> omega
    | c :: d :: r, h =>
      have h1 := ih r (by simp at h; omega)
      have h2 := ih (d :: r) (by simp at h ⊢; omega)
      have e1 : setL (c :: d :: r ++ 10 :: b) = if c.toNat = 92 then (if setL (r ++ 10 :: b) = 0 then 0 else setL (r ++ 10 :: b) + 2) else if c.toNat = 93 then 1 else if setL (d :: r ++ 10 :: b) = 0 then 0 else setL (d :: r ++ 10 :: b) + 1 := by
        show setL (c :: d :: (r ++ 10 :: b)) = _
        rw [setL_cons]
        rfl
      have e2 : setL (c :: d :: r) = if c.toNat = 92 then (if setL r = 0 then 0 else setL r + 2) else if c.toNat = 93 then 1 else if setL (d :: r) = 0 then 0 else setL (d :: r) + 1 := by
        rw [setL_cons]
      rw [e1, e2]
      simp only [List.length_cons] at *
      refine ⟨fun h => ?_, fun h => ?_⟩
      · split
        · rename_i hc
          rw [if_pos hc] at h
          by_cases h0 : setL r = 0
          · rw [if_pos h0] at h; exact absurd rfl h
          · rw [h1.1 h0]
        · rename_i hc
          rw [if_neg hc] at h
          split
          · rfl
          · rename_i hd
            rw [if_neg hd] at h
            by_cases h0 : setL (d :: r) = 0
            · rw [if_pos h0] at h; exact absurd rfl h
            · rw [h2.1 h0]
      · split
        · rename_i hc
          rw [if_pos hc] at h
          by_cases h0 : setL r = 0
          · have := h1.2 h0
            split <;> omega
          · rw [if_neg h0] at h; omega
        · rename_i hc
          rw [if_neg hc] at h
          split
          · rename_i hd
            rw [if_pos hd] at h; omega
          · rename_i hd
            rw [if_neg hd] at h
            by_cases h0 : setL (d :: r) = 0
            · have := h2.2 h0
              split <;> omega
            · rw [if_neg h0] at h; omega

/-! ### no set's text has a line's end in it -/
theorem hexs_no10 : ∀ (l : List UInt8) (n m : Nat), hexs n l = some m → 10 ∉ l := by
  intro l
  induction l with
  | nil => intro n m _ h; cases h
  | cons c l ih =>
    intro n m h hm
    unfold hexs at h
    rcases List.mem_cons.1 hm with rfl | hm
    · rw [hexD_nl] at h; cases h
    · split at h
      · cases h
      · exact ih _ _ h hm
theorem ne10 {c : UInt8} (h : c.toNat ≠ 10) : c ≠ 10 := fun e => h (by rw [e]; rfl)
theorem byteB_cons (c : UInt8) (r : List UInt8) : byteB (c :: r) = if c.toNat = 92 then escB (c :: r) else if 32 ≤ c.toNat ∧ c.toNat ≤ 126 ∧ signB c.toNat = false then (c.toNat, 1) else (0, 0) := rfl
theorem escB_cons (a b : UInt8) (r : List UInt8) : escB (a :: b :: r) = if b.toNat = 116 then (9, 2) else if b.toNat = 110 then (10, 2) else if b.toNat = 114 then (13, 2) else if signB b.toNat then (b.toNat, 2)
    else if b.toNat = 120 ∧ 2 ≤ r.length then (match hexs 0 (r.take 2) with
      | some n => (n % 256, 4)
      | none => (0, 0))
    else (0, 0) := rfl
theorem two_no10 (c d : UInt8) (r : List UInt8) (hc : c ≠ 10) (hd : d ≠ 10) : 10 ∉ (c :: d :: r).take 2 := by
  simp [Ne.symm hc, Ne.symm hd]
theorem byteB_no10 (l : List UInt8) : 10 ∉ l.take (byteB l).2 := by
  cases l with
  | nil => simp
  | cons c r =>
    rw [byteB_cons]
    by_cases hc : c.toNat = 92
    · rw [if_pos hc]
      have hc' : c ≠ 10 := ne10 (by omega)
      cases r with
      | nil => simp [escB]
      | cons d r =>
        rw [escB_cons]
        by_cases d1 : d.toNat = 116
        · rw [if_pos d1]; exact two_no10 c d r hc' (ne10 (by omega))
        · rw [if_neg d1]
          by_cases d2 : d.toNat = 110
          · rw [if_pos d2]; exact two_no10 c d r hc' (ne10 (by omega))
          · rw [if_neg d2]
            by_cases d3 : d.toNat = 114
            · rw [if_pos d3]; exact two_no10 c d r hc' (ne10 (by omega))
            · rw [if_neg d3]
              cases d4 : signB d.toNat with
              | true =>
                rw [if_pos rfl]
                exact two_no10 c d r hc' (ne10 fun e => by rw [e] at d4; exact absurd d4 (by decide))
              | false =>
                rw [if_neg (by simp)]
                by_cases d5 : d.toNat = 120 ∧ 2 ≤ r.length
                · rw [if_pos d5]
                  have hd' : d ≠ 10 := ne10 (by omega)
                  cases hh : hexs 0 (r.take 2) with
                  | none => simp
                  | some n =>
                    have := hexs_no10 _ _ _ hh
                    show 10 ∉ (c :: d :: r).take 4
                    rw [List.take_succ_cons, List.take_succ_cons, List.mem_cons, List.mem_cons]
                    rintro (h | h | h)
                    · exact hc' h.symm
                    · exact hd' h.symm
                    · exact this h
                · rw [if_neg d5]; simp
    · rw [if_neg hc]
      by_cases h2 : 32 ≤ c.toNat ∧ c.toNat ≤ 126 ∧ signB c.toNat = false
      · rw [if_pos h2]
        have : c ≠ 10 := ne10 (by omega)
        simp [Ne.symm this]
      · rw [if_neg h2]; simp
theorem take_add_mem (l : List UInt8) (a b : Nat) (x : UInt8) (h : x ∈ l.take (a + b)) : x ∈ l.take a ∨ x ∈ (l.drop a).take b := by
  rw [List.take_add, List.mem_append] at h
  exact h
theorem itemB_no10 (l : List UInt8) : 10 ∉ l.take (itemB l).2 := by
  have h1 := byteB_no10 l
  have h2 := byteB_no10 (l.drop ((byteB l).2 + 1))
  unfold itemB
  split
  · exact h1
  · rename_i hp
    split
    · simp
    · intro h
      rcases take_add_mem l _ _ _ h with h | h
      · rcases take_add_mem l _ _ _ h with h | h
        · exact h1 h
        · have hp2 : Lib.hasPrefix (l.drop (byteB l).2) [45] = true := by
            cases hq : Lib.hasPrefix (l.drop (byteB l).2) [45] with
            | true => rfl
            | false => exact absurd (.inr hq) hp
          revert h hp2
          generalize l.drop (byteB l).2 = m
          intro h hp2
          cases m with
          | nil => simp at h
          | cons c m =>
            simp at h
            subst h
            simp [Lib.hasPrefix, List.isPrefixOf] at hp2
      · exact h2 h
theorem readItems_no10 : ∀ (f : Nat) (s : BS) (l : List UInt8), 10 ∈ l → readItems f s l = none := by
  intro f
  induction f with
  | zero => intro s l _; rfl
  | succ f ih =>
    intro s l h
    unfold readItems
    rw [if_neg (fun e => by rw [e] at h; simp at h)]
    split
    · rfl
    · refine ih _ _ ?_
      have h3 := itemB_no10 l
      have h4 : 10 ∈ l.take (itemB l).2 ++ l.drop (itemB l).2 := by rw [List.take_append_drop]; exact h
      rcases List.mem_append.1 h4 with h4 | h4
      · exact absurd h4 h3
      · exact h4
theorem readS_no10 (l : List UInt8) (h : 10 ∈ l) : readS l = none := by
  have k : ∀ (c : UInt8) (l : List UInt8), c ≠ 10 → 10 ∈ l → 10 ∈ Lib.trimPrefix l [c] := by
    intro c l hc h
    cases l with
    | nil => cases h
    | cons d l =>
      unfold Lib.trimPrefix
      split
      · rename_i hp
        simp [Lib.hasPrefix, List.isPrefixOf] at hp
        rcases List.mem_cons.1 h with h | h
        · exact absurd (hp.trans h.symm) hc
        · exact h
      · exact h
  have h1 := k 91 l (by decide) h
  have h2 := k 94 _ (by decide) h1
  unfold readS
  split
  · split
    · rw [readItems_no10 _ _ _ h2]; rfl
    · exact readItems_no10 _ _ _ h1
  · rfl
theorem setO_zero (l : List UInt8) (h : setL l = 0) : setO l = none := by
  unfold setO
  rw [h]
  exact hexs_none_nil
theorem setO_nl (l b : List UInt8) : setO (l ++ 10 :: b) = setO l := by
  have h := setL_nl b _ l (Nat.le_refl _)
  by_cases h0 : setL l = 0
  · rw [setO_zero l h0]
    rcases h.2 h0 with h1 | h1
    · exact setO_zero _ h1
    · unfold setO
      refine readS_no10 _ ?_
      obtain ⟨q, hq⟩ : ∃ q, setL (l ++ 10 :: b) = l.length + 1 + q := ⟨_, (Nat.add_sub_cancel' h1).symm⟩
      rw [hq, Nat.add_assoc, List.take_add, List.drop_left, Nat.add_comm 1 q, List.take_succ_cons]
      simp
  · unfold setO
    rw [h.1 h0, List.take_append_of_le_length (setL_le _ l (Nat.le_refl _))]
end Go.Proofs.YtdodkbpagbblmaaDoor
