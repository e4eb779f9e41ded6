import Derived.Test.YtmlkeddiagmedaaKnown
namespace Go.Proofs.Ytmlkeddiagmedaa
open Go.RowKit

theorem IsCB.take {a b : List UInt8} {k : Nat} (h : IsCB a b k) : a.take k = b.take k := by
  apply List.ext_getElem?
  intro i
  by_cases hi : i < k
  · rw [List.getElem?_take_of_lt hi, List.getElem?_take_of_lt hi, h.2.2.1 i hi]
  · rw [List.getElem?_eq_none (by rw [List.length_take]; omega), List.getElem?_eq_none (by rw [List.length_take]; omega)]

theorem IsCB.unique {a b : List UInt8} {k n : Nat} (h : IsCB a b k) (g : IsCB a b n) : n = k := by
  obtain ⟨h1, h2, h3, h4⟩ := h
  obtain ⟨g1, g2, g3, g4⟩ := g
  rcases Nat.lt_trichotomy n k with hn | hn | hn
  · exact absurd (h3 n hn) (g4 (by omega) (by omega))
  · exact hn
  · exact absurd (g3 k hn) (h4 (by omega) (by omega))

theorem IsCE.unique {a b : List UInt8} {k n : Nat} (h : IsCE a b k) (g : IsCE a b n) : n = k := by
  obtain ⟨h1, h2, h3, h4⟩ := h
  obtain ⟨g1, g2, g3, g4⟩ := g
  rcases Nat.lt_trichotomy n k with hn | hn | hn
  · exact absurd (h3 n hn) (g4 (by omega) (by omega))
  · exact hn
  · exact absurd (g3 k hn) (h4 (by omega) (by omega))

theorem IsCE.drop {a b : List UInt8} {m : Nat} (h : IsCE a b m) : a.drop (a.length - m) = b.drop (b.length - m) := by
  obtain ⟨h1, h2, h3, _⟩ := h
  apply List.ext_getElem?
  intro i
  rw [List.getElem?_drop, List.getElem?_drop]
  by_cases hi : i < m
  · have := h3 (m - 1 - i) (by omega)
    rw [show a.length - 1 - (m - 1 - i) = a.length - m + i by omega, show b.length - 1 - (m - 1 - i) = b.length - m + i by omega] at this
    exact this
  · rw [List.getElem?_eq_none (by omega), List.getElem?_eq_none (by omega)]

/-- The Edit that Diff tells makes b of a. -/
theorem diff_makes (a b : List UInt8) (k m : Nat) (hk : IsCB a b k) (hm : IsCE (a.drop k) (b.drop k) m) :
    a.take k ++ (b.take (b.length - m)).drop k ++ a.drop (a.length - m) = b := by
  have e1 := hk.take
  have e2 := hm.drop
  have h1 := hk.1
  have h2 := hk.2.1
  have h3 := hm.1
  have h4 := hm.2.1
  rw [List.length_drop] at h3 h4
  rw [List.length_drop, List.length_drop, List.drop_drop, List.drop_drop, show k + (a.length - k - m) = a.length - m by omega, show k + (b.length - k - m) = b.length - m by omega] at e2
  rw [e1, e2, List.append_assoc]
  have : (b.take (b.length - m)).drop k ++ b.drop (b.length - m) = b.drop k := by
    conv => rhs; rw [← List.take_append_drop (b.length - m) b]
    rw [List.drop_append_of_le_length (by rw [List.length_take]; omega)]
  rw [this, List.take_append_drop]

def diffEd (a b : ByteArray) (k m : Nat) : Ed := ((k : Int), (a.size : Int) - m, b.extract k (b.size - m))

theorem diff_apply (a b : ByteArray) (k m : Nat) (hk : IsCB a.data.toList b.data.toList k) (hm : IsCE (a.data.toList.drop k) (b.data.toList.drop k) m) :
    goodEd a.size (diffEd a b k m) ∧ (a.size : Int) + sumG [diffEd a b k m] = b.size ∧ applyA a.data.toList [diffEd a b k m] = b.data.toList := by
  have h1 := hk.1
  have h2 := hk.2.1
  have h3 := hm.1
  have h4 := hm.2.1
  rw [List.length_drop] at h3 h4
  have ea : a.data.toList.length = a.size := by simp
  have eb : b.data.toList.length = b.size := by simp
  rw [ea] at h1 h3
  rw [eb] at h2 h4
  refine ⟨?_, ?_, ?_⟩
  · unfold goodEd diffEd; simp only; omega
  · rw [sumG_cons]; unfold growI diffEd sumG
    simp only [ByteArray.size_extract, List.map_nil, List.foldl_nil]
    omega
  · have := diff_makes _ _ k m hk hm
    rw [ea, eb] at this
    conv => rhs; rw [← this]
    unfold applyA runA diffEd stepA
    simp only [List.foldl_cons, List.foldl_nil, List.drop_zero, List.nil_append, Int.toNat_natCast]
    have e1 : ((a.size : Int) - (m : Int)).toNat = a.size - m := by omega
    rw [e1, ByteArray.data_extract, Array.toList_extract, List.extract_eq_take_drop, List.drop_take]

/-- Apply at the one Edit that Diff tells. -/
theorem apply_diff (a b : ByteArray) (k m blk cap : Nat) (w : World) (ha : a.size ≤ 3000) (hb : b.size ≤ 3000) (hk : IsCB a.data.toList b.data.toList k) (hm : IsCE (a.data.toList.drop k) (b.data.toList.drop k) m)
    (hd : RowEd w (some ⟨blk, 0, none⟩) [diffEd a b k m]) :
    Calls Try.prog 16 #[.string a, .slice (some ⟨blk, 0, none⟩) 1 cap] w fun e w' => e = .returned (.tuple #[.string b, .int .i64 0]) ∧ Below w.heap.size w w' := by
  obtain ⟨h1, h2, h3⟩ := diff_apply a b k m hk hm
  refine (apply_any a _ cap [diffEd a b k m] w 3000 (by omega) hd (by simp) (by intro x hx; simp at hx; subst hx; unfold diffEd; simp only [ByteArray.size_extract]; omega) (by decide) (by simp)).mono ?_
  rintro e w' ⟨hB, ⟨hno, rfl⟩ | ⟨hgood, sd, hperm, hsort, h⟩⟩
  · exact absurd (fun x hx => by simp at hx; subst hx; exact h1) hno
  · have : sd = [diffEd a b k m] := List.perm_singleton.1 hperm
    subst this
    rcases h with ⟨hov, _⟩ | ⟨_, ⟨hbig, _⟩ | ⟨_, rfl⟩⟩
    · exact absurd hov (ovl_one _)
    · omega
    · refine ⟨?_, hB⟩
      rw [h3]

/-- What the law's second loop finds. -/
theorem ce_of_loop (a b : ByteArray) (j i : Nat) (hj : j ≤ a.size) (hj2 : j ≤ b.size) (hia : i ≤ a.size - j) (hib : i ≤ b.size - j) (hE : ∀ q, q < i → a.data.toList[a.size - 1 - q]? = b.data.toList[b.size - 1 - q]?)
    (hst : ¬ (i < a.size - j ∧ i < b.size - j ∧ a.data.toList[a.size - 1 - i]? = b.data.toList[b.size - 1 - i]?)) : IsCE (a.data.toList.drop j) (b.data.toList.drop j) i := by
  have ea : a.data.toList.length = a.size := by simp
  have eb : b.data.toList.length = b.size := by simp
  refine ⟨by rw [List.length_drop, ea]; exact hia, by rw [List.length_drop, eb]; exact hib, ?_, ?_⟩
  · intro q hq
    rw [List.length_drop, List.length_drop, List.getElem?_drop, List.getElem?_drop, ea, eb, show j + (a.size - j - 1 - q) = a.size - 1 - q by omega, show j + (b.size - j - 1 - q) = b.size - 1 - q by omega]
    exact hE q hq
  · intro g1 g2 hc
    rw [List.length_drop, ea] at g1
    rw [List.length_drop, eb] at g2
    rw [List.length_drop, List.length_drop, List.getElem?_drop, List.getElem?_drop, ea, eb, show j + (a.size - j - 1 - i) = a.size - 1 - i by omega, show j + (b.size - j - 1 - i) = b.size - 1 - i by omega] at hc
    exact hst ⟨g1, g2, hc⟩

end Go.Proofs.Ytmlkeddiagmedaa
