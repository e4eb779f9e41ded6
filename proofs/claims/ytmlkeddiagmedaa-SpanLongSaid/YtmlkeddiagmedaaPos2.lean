import Derived.Test.YtmlkeddiagmedaaPos
import Derived.Test.YtmlkeddiagmedaaDiff
namespace Go.Proofs.Ytmlkeddiagmedaa

theorem extract0 (s : ByteArray) (p : Nat) : (s.extract 0 p).data.toList = s.data.toList.take p := by
  rw [ByteArray.data_extract, Array.toList_extract, List.extract_eq_take_drop]
  simp

theorem dataBang (s : ByteArray) (k : Nat) (b : UInt8) (h : s.data.toList[k]? = some b) : s.data[k]! = b := by
  have h' : s.data[k]? = some b := by rw [← Array.getElem?_toList]; exact h
  rw [Array.getElem!_eq_getD, Array.getD_eq_getD_getElem?, h']
  rfl

theorem lastIdx_extract (s : ByteArray) (p : Nat) (c : Int) (hp : p ≤ s.size) : ∀ k, k ≤ p → Lib.lastIdx (s.extract 0 p) c k = Lib.lastIdx s c k := by
  intro k
  induction k with
  | zero => intro _; rfl
  | succ k ih =>
    intro hk
    have e : (s.extract 0 p).data[k]! = s.data[k]! := by
      have hb := byteAt s k (by omega)
      rw [dataBang s k _ hb]
      apply dataBang
      rw [extract0, List.getElem?_take_of_lt (by omega)]
      exact hb
    unfold Lib.lastIdx
    rw [e, ih (by omega)]

theorem lastIdx_start (s : ByteArray) : ∀ i, i ≤ s.size → Lib.lastIdx s 10 i + 1 = startL 0 0 s.data.toList i := by
  intro i
  induction i with
  | zero => intro _; rw [startL_zero]; rfl
  | succ i ih =>
    intro hi
    have hb := byteAt s i (by omega)
    rw [startL_step _ _ _ _ _ hb]
    unfold Lib.lastIdx
    rw [dataBang s i _ hb]
    by_cases h : s[i] = 10
    · rw [h]; simp
    · have : ¬ ((s[i].toNat : Int) = 10) := by
        intro h'
        apply h
        apply UInt8.toNat_inj.1
        show s[i].toNat = 10
        omega
      rw [if_neg this, if_neg h]
      exact ih (by omega)

theorem lineOf_eq (s : ByteArray) (i : Nat) : lineOf s i = ((s.data.toList.take i).count 10 : Nat) + 1 := by
  unfold lineOf Lib.countByte
  rw [extract0]

theorem colOf_eq (s : ByteArray) (i : Nat) (hi : i ≤ s.size) : colOf s i = (i : Int) - startL 0 0 s.data.toList i + 1 := by
  unfold colOf Lib.lastIndexByte
  rw [extract_size s i hi, lastIdx_extract s i 10 hi i (Nat.le_refl _), lastIdx_start s i hi]

theorem pos_step (s : ByteArray) (i : Nat) (hi : i < s.size) :
    lineOf s (i + 1) = (if s[i] = 10 then lineOf s i + 1 else lineOf s i) ∧ colOf s (i + 1) = (if s[i] = 10 then 1 else colOf s i + 1) := by
  have hb := byteAt s i hi
  rw [lineOf_eq, lineOf_eq, colOf_eq s _ (by omega), colOf_eq s _ (by omega), startL_step _ _ _ _ _ hb, List.take_add_one, hb]
  by_cases h : s[i] = 10
  · rw [if_pos h, if_pos h, if_pos h]
    constructor
    · simp [List.count_append, h]
    · omega
  · rw [if_neg h, if_neg h, if_neg h]
    constructor
    · have : List.count 10 [s[i]] = 0 := by simp [h]
      simp [List.count_append, this]
    · omega

theorem pos_zero (s : ByteArray) : lineOf s 0 = 1 ∧ colOf s 0 = 1 := by
  rw [lineOf_eq, colOf_eq s 0 (Nat.zero_le _), startL_zero]
  simp

theorem pos_bd (s : ByteArray) (i : Nat) (hi : i ≤ s.size) : 1 ≤ lineOf s i ∧ lineOf s i ≤ i + 1 ∧ 1 ≤ colOf s i ∧ colOf s i ≤ i + 1 := by
  induction i with
  | zero => obtain ⟨h1, h2⟩ := pos_zero s; omega
  | succ i ih =>
    obtain ⟨h1, h2⟩ := pos_step s i (by omega)
    obtain ⟨g1, g2, g3, g4⟩ := ih (by omega)
    rw [h1, h2]
    by_cases h : s[i] = 10
    · simp only [h, if_true]; omega
    · simp only [h, if_false]; omega

theorem pos_of_span (s : ByteArray) (k : Nat) (x : Nat × Nat) (i : Nat) (h : (spansAt s 0)[k]? = some x) (h1 : x.1 ≤ i) (h2 : i ≤ x.2) : lineOf s i = k + 1 ∧ colOf s i = (i : Int) - x.1 + 1 := by
  have hx := spansAt_bd s x (List.mem_of_getElem? h)
  have h' : (spansL 0 0 s.data.toList)[k]? = some x := by simpa [spansAt] using h
  obtain ⟨q1, q2⟩ := spansL_at s.data.toList 0 0 (Nat.le_refl _) k x i h' h1 h2 (Nat.zero_le _)
  rw [Nat.sub_zero] at q1 q2
  rw [lineOf_eq, colOf_eq s i (by omega), q1, q2]
  omega

theorem span_of_pos (s : ByteArray) (i : Nat) (hi : i ≤ s.size) : ∃ (k : Nat) (x : Nat × Nat), (spansAt s 0)[k]? = some x ∧ x.1 ≤ i ∧ i ≤ x.2 := by
  obtain ⟨k, x, h, h1, h2⟩ := spansL_covers s.data.toList 0 0 (Nat.le_refl _) i (Nat.zero_le _) (by simpa using hi)
  exact ⟨k, x, by simpa [spansAt] using h, h1, h2⟩

/-- Place of At is the place. -/
theorem place_at (s : ByteArray) (i : Nat) (hi : i ≤ s.size) (p : Int) (h : PlaceOk s (lineOf s i) (colOf s i) p) : p = i := by
  obtain ⟨k, x, h1, h2, h3⟩ := span_of_pos s i hi
  obtain ⟨q1, q2⟩ := pos_of_span s k x i h1 h2 h3
  obtain ⟨k', x', g1, g2, g3, g4, g5⟩ := h
  obtain rfl : k' = k := by omega
  rw [h1] at g2
  cases g2
  omega

theorem place_no (s : ByteArray) (l c : Int) (h : PlaceNo s l c) (i : Nat) (hi : i ≤ s.size) : ¬ (lineOf s i = l ∧ colOf s i = c) := by
  rintro ⟨rfl, rfl⟩
  obtain ⟨k, x, h1, h2, h3⟩ := span_of_pos s i hi
  obtain ⟨q1, q2⟩ := pos_of_span s k x i h1 h2 h3
  have hk := (List.getElem?_eq_some_iff.1 h1).1
  rcases h with h | ⟨k', x', g1, g2, g3⟩
  · omega
  · obtain rfl : k' = k := by omega
    rw [h1] at g2
    cases g2
    omega

/-- At of Place is the position. -/
theorem at_place (s : ByteArray) (l c p : Int) (h : PlaceOk s l c p) : 0 ≤ p ∧ p ≤ s.size ∧ lineOf s p.toNat = l ∧ colOf s p.toNat = c := by
  obtain ⟨k, x, g1, g2, g3, g4, g5⟩ := h
  have hx := spansAt_bd s x (List.mem_of_getElem? g2)
  obtain ⟨q1, q2⟩ := pos_of_span s k x p.toNat g2 (by omega) (by omega)
  omega

end Go.Proofs.Ytmlkeddiagmedaa
