import Derived.Test.YtmlkeddiagmedaaPlace
import Derived.Test.YtmlkeddiagmedaaApply
import Derived.Test.YtmlkeddiagmedaaDiff2
import Derived.Test.YtmlkeddiagmedaaMoved
namespace Go.Proofs.Ytmlkeddiagmedaa
open Go.RowKit

abbrev sAbNlCd : ByteArray := { data := #[97, 98, 10, 99, 100] }
abbrev sAbcd : ByteArray := { data := #[97, 98, 99, 100] }
abbrev sAbXd : ByteArray := { data := #[97, 98, 88, 100] }

theorem kAt (w : World) : Calls Try.prog 10 #[.string sAbNlCd, .int .i64 4] w fun e w' => e = .returned (.tuple #[.agg #[.int .i64 2, .int .i64 2], .int .i64 0]) ∧ Below w.heap.size w w' := by
  have h := at_ok sAbNlCd 4 w (by decide) (by decide)
  have e1 : lineOf sAbNlCd 4 = 2 := by decide +kernel
  have e2 : colOf sAbNlCd 4 = 2 := by decide +kernel
  rw [e1, e2] at h
  exact h

theorem kPlace (w : World) : Calls Try.prog 11 #[.string sAbNlCd, .agg #[.int .i64 2, .int .i64 2]] w fun e w' => e = .returned (.tuple #[.int .i64 4, .int .i64 0]) ∧ Below w.heap.size w w' := by
  refine (place_any sAbNlCd 2 2 w (by decide)).mono ?_
  have hs : spansAt sAbNlCd 0 = [(0, 2), (3, 5)] := by decide +kernel
  rintro e w' ⟨hB, ⟨p, ⟨k, x, hk, hx, h1, h2, hp⟩, rfl⟩ | ⟨⟨h⟩ | ⟨k, x, hk, hx, h1⟩, rfl⟩⟩
  · obtain rfl : k = 1 := by omega
    rw [hs] at hx
    simp at hx
    subst hx
    subst hp
    exact ⟨rfl, hB⟩
  · rw [hs] at h; simp at h
  · obtain rfl : k = 1 := by omega
    rw [hs] at hx
    simp at hx
    subst hx
    simp at h1

theorem perm_two {x y : Ed} {sd : List Ed} (h : sd.Perm [x, y]) : sd = [x, y] ∨ sd = [y, x] := by
  have hl := h.length_eq
  match sd, hl with
  | [a, b], _ =>
    have ha : a ∈ [x, y] := h.mem_iff.1 (by simp)
    rcases List.mem_cons.1 ha with rfl | ha
    · have := (List.perm_cons a).1 h
      left; rw [List.perm_singleton.1 this]
    · obtain rfl : a = y := by simpa using ha
      have := (List.perm_cons a).1 (h.trans (List.Perm.swap a x []))
      right; rw [List.perm_singleton.1 this]

theorem kApply1 (b cap : Nat) (w : World) (hd : RowEd w (some ⟨b, 0, none⟩) [(4, 4, ⟨#[89]⟩), (1, 2, ⟨#[88]⟩)]) :
    Calls Try.prog 16 #[.string sAbcd, .slice (some ⟨b, 0, none⟩) 2 cap] w fun e w' => e = .returned (.tuple #[.string ⟨#[97, 88, 99, 100, 89]⟩, .int .i64 0]) ∧ Below w.heap.size w w' := by
  refine (apply_any sAbcd _ cap [(4, 4, ⟨#[89]⟩), (1, 2, ⟨#[88]⟩)] w 1 (by decide) hd (by decide) (by intro x hx; simp at hx; rcases hx with rfl | rfl <;> decide) (by decide) (by decide)).mono ?_
  rintro e w' ⟨hB, ⟨hno, rfl⟩ | ⟨hgood, sd, hperm, hsort, h⟩⟩
  · exact absurd (fun x hx => by simp at hx; rcases hx with rfl | rfl <;> decide) hno
  · have hsd : sd = [(1, 2, ⟨#[88]⟩), (4, 4, ⟨#[89]⟩)] := by
      rcases perm_two hperm with rfl | rfl
      · simp [SortedEd] at hsort
      · rfl
    subst hsd
    rcases h with ⟨⟨i, x, y, hx, hy, hb⟩, _⟩ | ⟨_, ⟨hbig, _⟩ | ⟨_, rfl⟩⟩
    · have : i = 0 := by have := (List.getElem?_eq_some_iff.1 hy).1; simp at this; omega
      subst this
      simp at hx hy
      subst hx hy
      simp [pairBad] at hb
    · exact absurd hbig (by decide)
    · refine ⟨?_, hB⟩
      have : (⟨(applyA sAbcd.data.toList [(1, 2, ⟨#[88]⟩), (4, 4, ⟨#[89]⟩)]).toArray⟩ : ByteArray) = ⟨#[97, 88, 99, 100, 89]⟩ := by decide +kernel
      rw [this]

theorem kApply2 (b cap : Nat) (w : World) (hd : RowEd w (some ⟨b, 0, none⟩) [(0, 2, ⟨#[]⟩), (1, 3, ⟨#[]⟩)]) :
    Calls Try.prog 16 #[.string sAbcd, .slice (some ⟨b, 0, none⟩) 2 cap] w fun e w' => e = .returned (.tuple #[.string ⟨#[]⟩, .int .i64 110]) ∧ Below w.heap.size w w' := by
  refine (apply_any sAbcd _ cap [(0, 2, ⟨#[]⟩), (1, 3, ⟨#[]⟩)] w 1 (by decide) hd (by decide) (by intro x hx; simp at hx; rcases hx with rfl | rfl <;> decide) (by decide) (by decide)).mono ?_
  rintro e w' ⟨hB, ⟨hno, rfl⟩ | ⟨hgood, sd, hperm, hsort, h⟩⟩
  · exact absurd (fun x hx => by simp at hx; rcases hx with rfl | rfl <;> decide) hno
  · have hsd : sd = [(0, 2, ⟨#[]⟩), (1, 3, ⟨#[]⟩)] := by
      rcases perm_two hperm with rfl | rfl
      · rfl
      · simp [SortedEd] at hsort
    subst hsd
    rcases h with ⟨_, rfl⟩ | ⟨hno, _⟩
    · exact ⟨rfl, hB⟩
    · exact absurd ⟨0, _, _, rfl, rfl, .inl (by decide)⟩ hno

theorem kDiff (w : World) : Calls Try.prog 20 #[.string sAbcd, .string sAbXd] w fun e w' => e = .returned (.tuple #[.agg #[.int .i64 2, .int .i64 3, .string ⟨#[88]⟩], .bool true]) ∧ Below w.heap.size w w' := by
  refine (diff_any sAbcd sAbXd w (by decide) (by decide)).mono ?_
  rintro e w' ⟨hB, ⟨h, _⟩ | ⟨_, k, m, hk, hm, rfl⟩⟩
  · exact absurd h (by decide)
  · have k2 : k = 2 := by
      obtain ⟨h1, h2, h3, h4⟩ := hk
      simp at h1
      have : k = 0 ∨ k = 1 ∨ k = 2 ∨ k = 3 ∨ k = 4 := by omega
      rcases this with rfl | rfl | rfl | rfl | rfl
      · exact absurd (h4 (by decide) (by decide)) (by decide)
      · exact absurd (h4 (by decide) (by decide)) (by decide)
      · rfl
      · exact absurd (h3 2 (by omega)) (by decide)
      · exact absurd (h3 2 (by omega)) (by decide)
    subst k2
    have m1 : m = 1 := by
      obtain ⟨h1, h2, h3, h4⟩ := hm
      simp at h1
      have : m = 0 ∨ m = 1 ∨ m = 2 := by omega
      rcases this with rfl | rfl | rfl
      · exact absurd (h4 (by decide) (by decide)) (by decide)
      · rfl
      · exact absurd (h3 1 (by omega)) (by decide)
    subst m1
    refine ⟨?_, hB⟩
    have : sAbXd.extract 2 (sAbXd.size - 1) = ⟨#[88]⟩ := by decide +kernel
    rw [this]
    rfl

end Go.Proofs.Ytmlkeddiagmedaa
