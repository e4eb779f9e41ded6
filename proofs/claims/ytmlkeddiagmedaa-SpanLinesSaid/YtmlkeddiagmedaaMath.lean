import Derived.Lib.Bytealg
namespace Go.Proofs.Ytmlkeddiagmedaa

/-- The spans of the lines of l, l beginning at place c, the line under way at place f. -/
def spansL : Nat → Nat → List UInt8 → List (Nat × Nat)
  | f, c, [] => [(f, c)]
  | f, c, b :: r => if b = 10 then (f, c) :: spansL (c + 1) (c + 1) r else spansL f (c + 1) r

theorem spansL_cons (f c : Nat) (b : UInt8) (r : List UInt8) : spansL f c (b :: r) = if b = 10 then (f, c) :: spansL (c + 1) (c + 1) r else spansL f (c + 1) r := rfl

theorem spansL_no (l : List UInt8) : ∀ f c, Lib.indexByte l 10 < 0 → spansL f c l = [(f, c + l.length)] := by
  induction l with
  | nil => intro f c _; rfl
  | cons b r ih =>
    intro f c h
    unfold Lib.indexByte at h
    rw [spansL_cons]
    by_cases hb : b = 10
    · simp [hb] at h
    · rw [if_neg hb]
      have hb' : (b == 10) = false := by simpa using hb
      rw [hb'] at h
      have hg := Lib.indexByte_ge r 10
      rw [ih f (c + 1) (by
        by_cases h1 : Lib.indexByte r 10 = -1
        · omega
        · simp [h1] at h; omega)]
      simp; omega

theorem spansL_yes (l : List UInt8) : ∀ f c (i : Nat), Lib.indexByte l 10 = i → i < l.length ∧ spansL f c l = (f, c + i) :: spansL (c + i + 1) (c + i + 1) (l.drop (i + 1)) := by
  induction l with
  | nil => intro f c i h; unfold Lib.indexByte at h; omega
  | cons b r ih =>
    intro f c i h
    unfold Lib.indexByte at h
    rw [spansL_cons]
    by_cases hb : b = 10
    · simp [hb] at h
      obtain rfl : i = 0 := by omega
      simp [hb]
    · rw [if_neg hb]
      have hb' : (b == 10) = false := by simpa using hb
      rw [hb'] at h
      have hg := Lib.indexByte_ge r 10
      by_cases h1 : Lib.indexByte r 10 = -1
      · simp [h1] at h
      · simp [h1] at h
        obtain ⟨j, hj⟩ := Int.eq_ofNat_of_zero_le (a := Lib.indexByte r 10) (by omega)
        have hi : i = j + 1 := by omega
        subst hi
        obtain ⟨h2, h3⟩ := ih f (c + 1) j hj
        refine ⟨by simp; omega, ?_⟩
        rw [h3, show c + 1 + j = c + (j + 1) by omega]
        rfl

def spansOf (s : ByteArray) : List (Nat × Nat) := spansL 0 0 s.data.toList

/-- What is left to come from place c on. -/
def spansAt (s : ByteArray) (c : Nat) : List (Nat × Nat) := spansL c c (s.data.toList.drop c)

theorem spansAt_no (s : ByteArray) (c : Nat) (hc : c ≤ s.size) (h : Lib.indexByte (s.data.toList.drop c) 10 < 0) : spansAt s c = [(c, s.size)] := by
  unfold spansAt
  rw [spansL_no _ _ _ h]
  have : s.data.toList.length = s.size := by simp
  simp only [List.length_drop, this]
  congr 2; omega

theorem spansAt_yes (s : ByteArray) (c i : Nat) (hc : c ≤ s.size) (h : Lib.indexByte (s.data.toList.drop c) 10 = i) : c + i < s.size ∧ spansAt s c = (c, c + i) :: spansAt s (c + i + 1) := by
  obtain ⟨h1, h2⟩ := spansL_yes _ c c i h
  have : s.data.toList.length = s.size := by simp
  rw [List.length_drop, this] at h1
  refine ⟨by omega, ?_⟩
  unfold spansAt
  rw [h2, List.drop_drop]
  simp [Nat.add_assoc]

theorem spansL_bd (l : List UInt8) : ∀ f c, f ≤ c → ∀ x ∈ spansL f c l, f ≤ x.1 ∧ x.1 ≤ x.2 ∧ x.2 ≤ c + l.length := by
  induction l with
  | nil => intro f c h x hx; simp [spansL] at hx; subst hx; simp; exact h
  | cons b r ih =>
    intro f c h x hx
    rw [spansL_cons] at hx
    split at hx
    · rcases List.mem_cons.1 hx with rfl | hx
      · simp; omega
      · have := ih (c + 1) (c + 1) (Nat.le_refl _) x hx
        simp; omega
    · have := ih f (c + 1) (by omega) x hx
      simp; omega

theorem spansAt_bd (s : ByteArray) (x : Nat × Nat) (h : x ∈ spansAt s 0) : x.1 ≤ x.2 ∧ x.2 ≤ s.size := by
  have := spansL_bd (s.data.toList.drop 0) 0 0 (Nat.le_refl _) x h
  simp at this
  omega

theorem spansL_ne (l : List UInt8) (f c : Nat) : spansL f c l ≠ [] := by
  induction l generalizing f c with
  | nil => simp [spansL]
  | cons b r ih => unfold spansL; split <;> simp [ih]

end Go.Proofs.Ytmlkeddiagmedaa
