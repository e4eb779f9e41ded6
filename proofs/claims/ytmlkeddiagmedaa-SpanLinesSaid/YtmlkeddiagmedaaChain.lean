import Derived.Test.YtmlkeddiagmedaaMath
namespace Go.Proofs.Ytmlkeddiagmedaa
open Go

/-- Where the next line begins. -/
def nextAt (f : Nat) (pre : List (Nat × Nat)) : Nat := match pre.getLast? with
  | none => f
  | some y => y.2 + 1
theorem nextAt_nil (f : Nat) : nextAt f [] = f := rfl
theorem nextAt_snoc (f : Nat) (pre : List (Nat × Nat)) (x : Nat × Nat) : nextAt f (pre ++ [x]) = x.2 + 1 := by simp [nextAt]
theorem nextAt_cons (f g : Nat) (y : Nat × Nat) (pre : List (Nat × Nat)) (h : g = y.2 + 1) : nextAt f (y :: pre) = nextAt g pre := by
  unfold nextAt
  cases pre with
  | nil => simp [h]
  | cons z r => rw [List.getLast?_cons_cons]; simp [List.getLast?_cons]

/-- The lines lie one behind the other, a line end between each two, none within. -/
theorem spans_chain (L : List UInt8) : ∀ (l : List UInt8) (f c : Nat), l = L.drop c → c ≤ L.length → f ≤ c → (∀ i, f ≤ i → i < c → L[i]? ≠ some 10) → ∀ (pre : List (Nat × Nat)) (x : Nat × Nat), pre ++ [x] <+: spansL f c l →
    x.1 = nextAt f pre ∧ x.1 ≤ x.2 ∧ x.2 ≤ L.length ∧ (∀ i, x.1 ≤ i → i < x.2 → L[i]? ≠ some 10) ∧ (pre ≠ [] → 1 ≤ x.1 ∧ L[x.1 - 1]? = some 10) := by
  intro l
  induction l with
  | nil =>
    intro f c hl hc hf hn pre x hp
    have hlen : L.length ≤ c := by
      have := congrArg List.length hl
      simp at this; omega
    have e : spansL f c [] = [(f, c)] := rfl
    rw [e] at hp
    have hpl := hp.length_le
    simp at hpl
    subst hpl
    have hx : x = (f, c) := by
      have := hp.eq_of_length (by simp)
      simpa using this
    subst hx
    exact ⟨rfl, hf, by omega, hn, fun h => absurd rfl h⟩
  | cons b r ih =>
    intro f c hl hc hf hn pre x hp
    have hlt : c < L.length := by
      have := congrArg List.length hl
      simp at this; omega
    have hb : L[c]? = some b := by rw [← List.head?_drop, ← hl]; rfl
    have hr : r = L.drop (c + 1) := by rw [← List.drop_drop (i := 1) (j := c), ← hl]; rfl
    rw [spansL_cons] at hp
    by_cases h10 : b = 10
    · rw [if_pos h10] at hp
      cases pre with
      | nil =>
        have hx : x = (f, c) := by
          have := List.cons_prefix_cons.1 (show x :: [] <+: _ from hp)
          exact this.1
        subst hx
        exact ⟨rfl, hf, by omega, hn, fun h => absurd rfl h⟩
      | cons y ys =>
        obtain ⟨hy, hp2⟩ := List.cons_prefix_cons.1 (show y :: (ys ++ [x]) <+: _ from hp)
        obtain ⟨h1, h2, h3, h4, h5⟩ := ih (c + 1) (c + 1) hr (by omega) (Nat.le_refl _) (fun i h1 h2 => absurd h1 (by omega)) ys x hp2
        refine ⟨?_, h2, h3, h4, fun _ => ?_⟩
        · rw [h1, nextAt_cons f (c + 1) y ys (by rw [hy])]
        · by_cases hys : ys = []
          · subst hys
            rw [nextAt_nil] at h1
            rw [h1, Nat.add_sub_cancel, hb, h10]
            exact ⟨by omega, rfl⟩
          · exact h5 hys
    · rw [if_neg h10] at hp
      refine ih f (c + 1) hr (by omega) (by omega) (fun i h1 h2 => ?_) pre x hp
      by_cases hi : i = c
      · subst hi; rw [hb]; intro e; exact h10 (Option.some.inj e)
      · exact hn i h1 (by omega)

theorem spans_last (l : List UInt8) : ∀ (f c : Nat), nextAt 0 (spansL f c l) = c + l.length + 1 := by
  induction l with
  | nil => intro f c; rfl
  | cons b r ih =>
    intro f c
    rw [spansL_cons]
    by_cases h : b = 10
    · rw [if_pos h, nextAt_cons 0 (c + 1) _ _ rfl]
      have h2 := ih (c + 1) (c + 1)
      have hne : spansL (c + 1) (c + 1) r ≠ [] := spansL_ne _ _ _
      unfold nextAt at h2 ⊢
      cases hg : (spansL (c + 1) (c + 1) r).getLast? with
      | none => exact absurd (List.getLast?_eq_none_iff.1 hg) hne
      | some y => rw [hg] at h2; simp only [List.length_cons] at h2 ⊢; omega
    · rw [if_neg h, ih f (c + 1)]
      simp only [List.length_cons]; omega
theorem spans_count (l : List UInt8) : ∀ (f c : Nat), (spansL f c l).length = l.count 10 + 1 := by
  induction l with
  | nil => intro f c; rfl
  | cons b r ih =>
    intro f c
    rw [spansL_cons]
    by_cases h : b = 10
    · rw [if_pos h, List.length_cons, ih, h, List.count_cons_self]
    · rw [if_neg h, ih, List.count_cons_of_ne h]
end Go.Proofs.Ytmlkeddiagmedaa
