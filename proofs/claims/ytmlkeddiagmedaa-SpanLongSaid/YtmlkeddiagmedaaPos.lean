import Derived.Test.YtmlkeddiagmedaaPlace
namespace Go.Proofs.Ytmlkeddiagmedaa

/-- Where the line begins in which the place n bytes on lies. -/
def startL : Nat → Nat → List UInt8 → Nat → Nat
  | f, _, _, 0 => f
  | f, _, [], _ + 1 => f
  | f, c, b :: r, n + 1 => if b = 10 then startL (c + 1) (c + 1) r n else startL f (c + 1) r n

theorem startL_step (l : List UInt8) : ∀ f c n b, l[n]? = some b → startL f c l (n + 1) = if b = 10 then c + n + 1 else startL f c l n := by
  induction l with
  | nil => intro f c n b h; simp at h
  | cons a r ih =>
    intro f c n b h
    cases n with
    | zero =>
      simp at h
      subst h
      show (if a = 10 then startL (c + 1) (c + 1) r 0 else startL f (c + 1) r 0) = _
      cases r <;> rfl
    | succ n =>
      have h' : r[n]? = some b := by simpa using h
      show (if a = 10 then startL (c + 1) (c + 1) r (n + 1) else startL f (c + 1) r (n + 1)) = _
      rw [ih (c + 1) (c + 1) n b h', ih f (c + 1) n b h']
      show _ = if b = 10 then c + (n + 1) + 1 else (if a = 10 then startL (c + 1) (c + 1) r n else startL f (c + 1) r n)
      by_cases ha : a = 10 <;> by_cases hb : b = 10 <;> simp [ha, hb] <;> omega

theorem startL_zero (f c : Nat) (l : List UInt8) : startL f c l 0 = f := by cases l <;> rfl

theorem spansL_head (l : List UInt8) : ∀ f c, ∃ u, (spansL f c l)[0]? = some (f, u) ∧ c ≤ u := by
  induction l with
  | nil => intro f c; exact ⟨c, rfl, Nat.le_refl _⟩
  | cons b r ih =>
    intro f c
    rw [spansL_cons]
    split
    · exact ⟨c, rfl, Nat.le_refl _⟩
    · obtain ⟨u, h1, h2⟩ := ih f (c + 1)
      exact ⟨u, h1, by omega⟩

/-- Each place lies in a line. -/
theorem spansL_covers (l : List UInt8) : ∀ f c, f ≤ c → ∀ i, c ≤ i → i ≤ c + l.length → ∃ (k : Nat) (x : Nat × Nat), (spansL f c l)[k]? = some x ∧ x.1 ≤ i ∧ i ≤ x.2 := by
  induction l with
  | nil => intro f c hf i h1 h2; simp at h2; exact ⟨0, (f, c), rfl, by show f ≤ i; omega, by show i ≤ c; omega⟩
  | cons b r ih =>
    intro f c hf i h1 h2
    rw [spansL_cons]
    simp at h2
    split
    · by_cases hi : i = c
      · exact ⟨0, (f, c), rfl, by show f ≤ i; omega, by show i ≤ c; omega⟩
      · obtain ⟨k, x, h3, h4⟩ := ih (c + 1) (c + 1) (Nat.le_refl _) i (by omega) (by omega)
        exact ⟨k + 1, x, by simpa using h3, h4⟩
    · by_cases hi : i = c
      · obtain ⟨u, h3, h4⟩ := spansL_head r f (c + 1)
        exact ⟨0, (f, u), h3, by show f ≤ i; omega, by show i ≤ u; omega⟩
      · exact ih f (c + 1) (by omega) i (by omega) (by omega)

/-- .. the line of its number, which begins where the last line end ahead of the place says. -/
theorem spansL_at (l : List UInt8) : ∀ f c, f ≤ c → ∀ (k : Nat) (x : Nat × Nat) i, (spansL f c l)[k]? = some x → x.1 ≤ i → i ≤ x.2 → c ≤ i → (l.take (i - c)).count 10 = k ∧ startL f c l (i - c) = x.1 := by
  induction l with
  | nil =>
    intro f c hf k x i h h1 h2 h3
    cases k with
    | zero => simp [spansL] at h; subst h; simp at h2; obtain rfl : i = c := by omega
              simp [startL_zero]
    | succ k => simp [spansL] at h
  | cons b r ih =>
    intro f c hf k x i h h1 h2 h3
    rw [spansL_cons] at h
    have hsub : i ≠ c → i - c = (i - (c + 1)) + 1 := fun _ => by omega
    by_cases hb : b = 10
    · rw [if_pos hb] at h
      cases k with
      | zero =>
        simp at h; subst h
        obtain rfl : i = c := by simp at h2; omega
        simp [startL_zero]
      | succ k =>
        have h' : (spansL (c + 1) (c + 1) r)[k]? = some x := by simpa using h
        have hx := (spansL_bd r (c + 1) (c + 1) (Nat.le_refl _) x (List.mem_of_getElem? h')).1
        obtain ⟨q1, q2⟩ := ih (c + 1) (c + 1) (Nat.le_refl _) k x i h' h1 h2 (by omega)
        rw [hsub (by omega), List.take_succ_cons, List.count_cons]
        refine ⟨by rw [q1]; simp [hb], ?_⟩
        show (if b = 10 then startL (c + 1) (c + 1) r _ else _) = _
        rw [if_pos hb, q2]
    · rw [if_neg hb] at h
      by_cases hi : i = c
      · subst hi
        have hk : k = 0 := by
          cases k with
          | zero => rfl
          | succ k =>
            obtain ⟨u, h4, h5⟩ := spansL_head r f (i + 1)
            have := spansL_pair r f (i + 1) k x h
            omega
        subst hk
        obtain ⟨u, h4, h5⟩ := spansL_head r f (i + 1)
        rw [h4] at h
        cases h
        simp [startL_zero]
      · obtain ⟨q1, q2⟩ := ih f (c + 1) (by omega) k x i h h1 h2 (by omega)
        rw [hsub hi, List.take_succ_cons, List.count_cons]
        refine ⟨by rw [q1]; simp [hb], ?_⟩
        show (if b = 10 then _ else startL f (c + 1) r _) = _
        rw [if_neg hb, q2]
where
  spansL_pair (l : List UInt8) : ∀ f c (k : Nat) (x : Nat × Nat), (spansL f c l)[k + 1]? = some x → c ≤ x.1 := by
    induction l with
    | nil => intro f c k x h; simp [spansL] at h
    | cons b r ih =>
      intro f c k x h
      rw [spansL_cons] at h
      split at h
      · have h' : (spansL (c + 1) (c + 1) r)[k]? = some x := by simpa using h
        have := (spansL_bd r (c + 1) (c + 1) (Nat.le_refl _) x (List.mem_of_getElem? h')).1
        omega
      · have := ih f (c + 1) k x h
        omega

end Go.Proofs.Ytmlkeddiagmedaa
