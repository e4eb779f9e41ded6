import Derived.Test.YtmlkeddiagmedaaOvl
namespace Go.Proofs.Ytmlkeddiagmedaa
open Go.RowKit Go.Shelf Go.Lib Go.Sort

theorem flat_get (d : List Ed) : ∀ j, j < d.length * 3 → (d.flatMap encEd)[j]? = some ((encEd d[j / 3]!)[j % 3]!) := by
  induction d with
  | nil => intro j h; simp at h
  | cons x r ih =>
    intro j h
    rw [List.flatMap_cons]
    by_cases hj : j < 3
    · rw [List.getElem?_append_left (by simpa [encEd] using hj)]
      have h1 : j / 3 = 0 := by omega
      have h2 : j % 3 = j := by omega
      rw [h1, h2]
      have : j = 0 ∨ j = 1 ∨ j = 2 := by omega
      rcases this with rfl | rfl | rfl <;> simp [encEd]
    · rw [List.getElem?_append_right (by simpa [encEd] using hj)]
      have hl : (encEd x).length = 3 := rfl
      rw [hl, ih (j - 3) (by simp at h; omega)]
      have h1 : j / 3 = (j - 3) / 3 + 1 := by omega
      have h2 : (j - 3) % 3 = j % 3 := by omega
      rw [h1, h2]
      simp

theorem flat_length (d : List Ed) : (d.flatMap encEd).length = d.length * 3 := by
  induction d with
  | nil => rfl
  | cons x r ih => rw [List.flatMap_cons, List.length_append, ih]; simp [encEd]; omega

theorem getD_of {d : List Ed} {i : Nat} {x : Ed} (h : d[i]? = some x) : d[i]! = x := by simp [h]

theorem RowEd.flat {w : World} {b off : Nat} {d : List Ed} (h : RowEd w (some ⟨b, off, none⟩) d) : ∀ j u, (d.flatMap encEd)[j]? = some u → w.cell? ⟨b, off + j, none⟩ = some u := by
  intro j u hu
  have hj : j < d.length * 3 := by
    have := (List.getElem?_eq_some_iff.1 hu).1
    rwa [flat_length] at this
  rw [flat_get d j hj] at hu
  cases hu
  have hi : j / 3 < d.length := by omega
  obtain ⟨b', off', hab, h0, h1, h2⟩ := h (j / 3) d[j / 3] (by simp [hi])
  cases hab
  rw [getD_of (show d[j / 3]? = some d[j / 3] by simp [hi])]
  generalize d[j / 3] = x at *
  have : j % 3 = 0 ∨ j % 3 = 1 ∨ j % 3 = 2 := by omega
  rcases this with h | h | h
  · rw [h, show off + j = off + j / 3 * 3 by omega]; exact h0
  · rw [h, show off + j = off + j / 3 * 3 + 1 by omega]; exact h1
  · rw [h, show off + j = off + j / 3 * 3 + 2 by omega]; exact h2

theorem rowEd_of_holds {w : World} {b off : Nat} {d : Array Ed} (h : HoldsK encEd 3 w b off d) : RowEd w (some ⟨b, off, none⟩) d.toList := by
  intro i x hx
  obtain ⟨hi, hx'⟩ := List.getElem?_eq_some_iff.1 hx
  have hi' : i < d.size := by simpa using hi
  have e : d[i]! = x := by
    rw [getElem!_pos d i hi', ← hx']; simp
  refine ⟨b, off, rfl, ?_, ?_, ?_⟩
  · have := (h.cell hi' (show 0 < 3 by omega)).1
    rw [e] at this; exact this
  · have := (h.cell hi' (show 1 < 3 by omega)).1
    rw [e] at this; exact this
  · have := (h.cell hi' (show 2 < 3 by omega)).1
    rw [e] at this; exact this

theorem holds_of_owns {w : World} {base g cap : Nat} {d : List Ed} (h : w.ownsRow base 42 3 (.slice (some ⟨g, 0, none⟩) d.length cap) d.length (d.flatMap encEd)) : HoldsK encEd 3 w g 0 d.toArray := by
  intro j hj
  have hj' : j < d.length * 3 := by simpa using hj
  refine ⟨?_, by rw [Nat.zero_add]; exact h.frozenAt j⟩
  rw [Nat.zero_add, h.cellAt j hj', flat_get d j hj']
  congr 1
  show _ = (flatK encEd 3 d.toArray)[j]!
  rw [get_flatK encEd 3 d.toArray j (by simpa using hj')]
  simp

noncomputable def edI : TypeInfo := (Try.prog.info? 42).get (by kernel_rfl)

def clonePost (d : List Ed) (w : World) (e : Ending) (w' : World) : Prop :=
  Below w.heap.size w w' ∧ ∃ g cap, e = .returned (.slice (some ⟨g, 0, none⟩) d.length cap) ∧ w.heap.size ≤ g ∧ g < w'.heap.size ∧ HoldsK encEd 3 w' g 0 d.toArray

theorem clone_any (b off cap : Nat) (d : List Ed) (w : World) (hd : RowEd w (some ⟨b, off, none⟩) d) (hl : d.length * 32 ≤ 140737488355328) :
    Calls Try.prog 56 #[.slice (some ⟨b, off, none⟩) d.length cap] w (clonePost d w) := by
  refine (AnyE.slices_Clone Try.cloneEd edI (.agg #[.int .i64 0, .int .i64 0, .string ⟨#[]⟩]) 3 32 (by kernel_rfl) (by kernel_rfl) (by kernel_rfl) (by kernel_rfl) rfl (by decide) Try.sizeOf42 b off d.length cap (d.flatMap encEd) w (flat_length d) (by unfold maxLen; omega) hl hd.flat ?_).mono ?_
  · intro u hu
    obtain ⟨x, _, hx⟩ := List.mem_flatMap.1 hu
    simp [encEd] at hx
    rcases hx with rfl | rfl | rfl <;> rfl
  · rintro e w' ⟨v', rfl, hown, hne, hB⟩
    refine ⟨hB, ?_⟩
    obtain ⟨_, ⟨hv, _⟩ | ⟨g, cap', cur, rfl, hg, hgg, _⟩⟩ := id hown
    · exact absurd hv hne
    · exact ⟨g, cap', rfl, hg, (Array.getElem?_eq_some_iff.1 hgg).1, holds_of_owns hown⟩

end Go.Proofs.Ytmlkeddiagmedaa
