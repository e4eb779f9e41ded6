import Derived.Test.YtmlkeddiagmedaaClash
import Derived.Test.YtmlkeddiagmedaaGrow
namespace Go.Proofs.Ytmlkeddiagmedaa
open Go.RowKit

/-- A slice of Edits in memory of its own, from block B on. -/
def OwnEd (B : Nat) (v : Value) (d : List Ed) (w : World) : Prop := w.ownsRow B 42 3 v d.length (d.flatMap encEd)

theorem OwnEd.nil (B : Nat) (w : World) : OwnEd B (.slice none 0 0) [] w := World.ownsRow_nil _ _ _ _

theorem OwnEd.alloc {B : Nat} {v : Value} {d : List Ed} {w : World} (h : OwnEd B v d w) (o : Obj) : OwnEd B v d (w.alloc o) := World.ownsRow.alloc h o
theorem OwnEd.drew {B : Nat} {v : Value} {d : List Ed} {w : World} (h : OwnEd B v d w) : OwnEd B v d w.drew := h
theorem OwnEd.kept {B : Nat} {v : Value} {d : List Ed} {w w' : World} {row : Option Nat} (h : OwnEd B v d w) (hg : w.grownBy w' row) (hne : v.ownBlock = none ∨ v.ownBlock ≠ row) : OwnEd B v d w' := World.ownsRow.kept h hg hne

theorem OwnEd.below {B n : Nat} {v : Value} {d : List Ed} {w w' : World} (h : OwnEd B v d w) (hB : Below n w w') (hn : w.heap.size ≤ n) : OwnEd B v d w' := by
  refine ⟨h.1, ?_⟩
  rcases h.2 with h0 | ⟨g, cap, cur, hv, hb, hg, hr⟩
  · exact .inl h0
  · exact .inr ⟨g, cap, cur, hv, hb, (hB.block g (by have := (Array.getElem?_eq_some_iff.1 hg).1; omega)).trans hg, hr⟩

theorem OwnEd.shape {B : Nat} {v : Value} {d : List Ed} {w : World} (h : OwnEd B v d w) : (v = .slice none 0 0 ∧ d = []) ∨ ∃ g cap, v = .slice (some ⟨g, 0, none⟩) d.length cap ∧ B ≤ g ∧ g < w.heap.size ∧ d.length ≤ cap ∧ cap ≤ maxLen ∧ (∀ j, w.frozen? ⟨g, j, none⟩ = false) := by
  rcases h.2 with ⟨h0, h1⟩ | ⟨g, cap, cur, hv, hb, hg, hn, hm, _⟩
  · exact .inl ⟨h0, List.length_eq_zero_iff.1 h1⟩
  · refine .inr ⟨g, cap, hv, hb, (Array.getElem?_eq_some_iff.1 hg).1, hn, hm, fun j => ?_⟩
    unfold World.frozen?
    simp only [hg]
    simp

theorem OwnEd.row {B g cap : Nat} {d : List Ed} {w : World} (h : OwnEd B (.slice (some ⟨g, 0, none⟩) d.length cap) d w) : RowEd w (some ⟨g, 0, none⟩) d := by
  have hc := World.ownsRow.cells h (g := g) rfl
  intro i x hx
  obtain ⟨hi, rfl⟩ := List.getElem?_eq_some_iff.1 hx
  have key : ∀ r, r < 3 → w.cell? ⟨g, 0 + i * 3 + r, none⟩ = some ((encEd d[i])[r]!) := by
    intro r hr
    have h1 : (d.flatMap encEd)[i * 3 + r]? = some ((encEd d[i])[r]!) := by
      rw [flat_get d _ (by omega)]
      have e1 : (i * 3 + r) / 3 = i := by omega
      have e2 : (i * 3 + r) % 3 = r := by omega
      rw [e1, e2, getD_of hx]
    have h2 := hc _ _ h1
    rw [show (⟨g, 0, none⟩ : Addr).add (i * 3 + r) = ⟨g, 0 + i * 3 + r, none⟩ from by unfold Addr.add; split <;> simp_all] at h2
    exact h2
  exact ⟨g, 0, rfl, key 0 (by omega), key 1 (by omega), key 2 (by omega)⟩

/-- The last one's end is moved. -/
theorem OwnEd.setLast {B g cap n : Nat} {d : List Ed} {y : Ed} {u : Int} {w : World} (h : OwnEd B (.slice (some ⟨g, 0, none⟩) n cap) (d ++ [y]) w) :
    OwnEd B (.slice (some ⟨g, 0, none⟩) n cap) (d ++ [(y.1, u, y.2.2)]) (w.setCell ⟨g, d.length * 3 + 1, none⟩ (.int .i64 u)) := by
  unfold OwnEd at h ⊢
  obtain ⟨h1, h2⟩ := h
  refine ⟨by rw [flat_length], .inr ?_⟩
  rcases h2 with ⟨h0, _⟩ | ⟨g', cap', cur, hv, hb, hg, hn, hm, hs, ht⟩
  · cases h0
  · cases hv
    have hl1 : (d ++ [y]).length = d.length + 1 := by simp
    refine ⟨g, cap, cur.setIfInBounds (d.length * 3 + 1) (.int .i64 u), ?_, hb, Blk.set (t := 42) hg _ _, by simpa using hn, hm, by simpa using hs, ?_⟩
    · simp [hl1]
    · rw [Array.toList_setIfInBounds, List.take_set]
      have hl2 : (d ++ [(y.1, u, y.2.2)]).length = (d ++ [y]).length := by simp
      rw [hl2, ht]
      rw [List.flatMap_append, List.flatMap_append, ← flat_length d]
      rw [List.set_append_right _ _ (by omega)]
      congr 1
      simp [encEd, List.flatMap_cons]

end Go.Proofs.Ytmlkeddiagmedaa
