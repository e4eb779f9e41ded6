import Derived.Laws.AppendOwnNone
import Derived.Deep.DeepCutAuto
import Derived.Test.YtegmoeeeomjkgaaDoorRefB2
import Derived.Test.YtegmoeeeomjkgaaDoorRefC
import Derived.Test.YtegmoeeeomjkgaaDoorRefD
import Derived.Test.YtegmoeeeomjkgaaDoorT3
import Derived.Test.YtegmoeeeomjkgaaDoorV2
namespace Go.Proofs.YtegmoeeeomjkgaaDoor
open Go Go.RowKit

/-- A list in memory of its own, one element more behind it. -/
def Sent (B : Nat) (e : TypeId) (size : Nat) (xs last : List Value) (n g c : Nat) (w : World) : Prop :=
  w.ownsRow B e size (.slice (some ⟨g, 0, none⟩) (n + 1) c) (n + 1) (xs ++ last) ∧ n + 1 ≤ c

theorem Sent.of {B size n : Nat} {e : TypeId} {xs last : List Value} {v : Value} {w : World} (h : w.ownsRow B e size v (n + 1) (xs ++ last)) :
    ∃ g c, v = .slice (some ⟨g, 0, none⟩) (n + 1) c ∧ Sent B e size xs last n g c w := by
  have h0 := h
  rcases h.2 with ⟨_, h1⟩ | ⟨g, cap, cur, rfl, _, _, h1, _⟩
  · omega
  · exact ⟨g, cap, rfl, h0, h1⟩

theorem Sent.below {B size n g c m : Nat} {e : TypeId} {xs last : List Value} {w w' : World} (h : Sent B e size xs last n g c w) (hB : Below m w w') (hm : w.heap.size ≤ m) : Sent B e size xs last n g c w' :=
  ⟨own_below h.1 hB hm, h.2⟩
theorem Sent.cells {B size n g c : Nat} {e : TypeId} {xs last : List Value} {w : World} (h : Sent B e size xs last n g c w) (j : Nat) (hj : j < (n + 1) * size) : w.cell? ⟨g, j, none⟩ = (xs ++ last)[j]? := h.1.cellAt j hj
theorem Sent.lt {B size n g c : Nat} {e : TypeId} {xs last : List Value} {w : World} (h : Sent B e size xs last n g c w) : g < w.heap.size := by
  rcases h.1.2 with ⟨h1, _⟩ | ⟨g', cap, cur, h1, _, h2, _⟩
  · cases h1
  · cases h1; exact (Array.getElem?_eq_some_iff.1 h2).1

/-- Bytes' cells. -/
def cellsY (l : List Nat) : List Value := l.map byteV

theorem add_zero_off (b off j : Nat) : (⟨b, off, none⟩ : Addr).add j = ⟨b, off + j, none⟩ := by
  unfold Addr.add; split
  · next h => rw [h]; rfl
  · rfl

theorem news_R {w : World} {ad : Addr} {rs : List (Nat × Nat)} (hd : RowR w (some ad) rs) : ∀ j u, (cellsR rs)[j]? = some u → w.cell? (ad.add j) = some u := by
  intro j u hu
  have hj : j < rs.length * 2 := by
    have := (List.getElem?_eq_some_iff.1 hu).1
    rwa [cellsR_length] at this
  have hi : j / 2 < rs.length := by omega
  obtain ⟨b, off, hab, h1, h2⟩ := hd (j / 2) rs[j / 2] (List.getElem?_eq_getElem hi)
  cases hab
  obtain ⟨k1, k2⟩ := cellsR_at rs (j / 2) rs[j / 2] (List.getElem?_eq_getElem hi)
  rw [add_zero_off]
  rcases (by omega : j % 2 = 0 ∨ j % 2 = 1) with h | h
  · have e : j = j / 2 * 2 := by omega
    rw [← e] at h1 k1
    rw [h1, ← k1, hu]
  · have e : j = j / 2 * 2 + 1 := by omega
    have e2 : off + j / 2 * 2 + 1 = off + j := by omega
    rw [e2] at h2
    rw [← e] at k2
    rw [h2, ← k2, hu]

theorem news_Y {w : World} {ad : Addr} {l : List Nat} (hd : RowY w (some ad) l) : ∀ j u, (cellsY l)[j]? = some u → w.cell? (ad.add j) = some u := by
  intro j u hu
  unfold cellsY at hu
  rw [List.getElem?_map] at hu
  cases hx : l[j]? with
  | none => rw [hx] at hu; cases hu
  | some x =>
    rw [hx] at hu
    obtain ⟨b, off, hab, h1⟩ := hd j x hx
    cases hab
    rw [add_zero_off, h1]
    simpa [byteV] using hu

theorem one_R (rs : List (Nat × Nat)) : ∀ u ∈ cellsR rs, u.oneCell' = true := by
  intro u hu
  unfold cellsR at hu
  obtain ⟨x, _, hx⟩ := List.mem_flatMap.1 hu
  simp at hx
  rcases hx with rfl | rfl <;> rfl
theorem one_Y (l : List Nat) : ∀ u ∈ cellsY l, u.oneCell' = true := by
  intro u hu
  unfold cellsY at hu
  obtain ⟨x, _, rfl⟩ := List.mem_map.1 hu
  rfl

theorem Sent.rowR {B n g c : Nat} {last : List Value} {rs : List (Nat × Nat)} {w : World} (h : Sent B 26 2 (cellsR rs) last n g c w) (hn : n = rs.length) : RowR w (some ⟨g, 0, none⟩) rs := by
  intro i x hx
  have hi := (List.getElem?_eq_some_iff.1 hx).1
  obtain ⟨k1, k2⟩ := cellsR_at rs i x hx
  refine ⟨g, 0, rfl, ?_, ?_⟩
  · rw [Nat.zero_add, h.cells _ (by omega), List.getElem?_append_left (by rw [cellsR_length]; omega), k1]
  · rw [Nat.zero_add, h.cells _ (by omega), List.getElem?_append_left (by rw [cellsR_length]; omega), k2]
theorem Sent.rowY {B n g c : Nat} {last : List Value} {l : List Nat} {w : World} (h : Sent B 5 1 (cellsY l) last n g c w) (hn : n = l.length) : RowY w (some ⟨g, 0, none⟩) l := by
  intro i x hx
  have hi := (List.getElem?_eq_some_iff.1 hx).1
  refine ⟨g, 0, rfl, ?_⟩
  rw [Nat.zero_add, h.cells _ (by omega), List.getElem?_append_left (by unfold cellsY; simp; omega)]
  unfold cellsY
  rw [List.getElem?_map, hx]; rfl

theorem le_alloc {n : Nat} {w : World} (h : n ≤ w.heap.size) (o : Obj) : n ≤ (w.alloc o).heap.size := by simp; omega

theorem row_none_R {w : World} {rs : List (Nat × Nat)} (h : RowR w none rs) : rs = [] := by
  cases rs with
  | nil => rfl
  | cons x r => obtain ⟨b, off, e, _⟩ := h 0 x rfl; cases e
theorem row_none_Y {w : World} {l : List Nat} (h : RowY w none l) : l = [] := by
  cases l with
  | nil => rfl
  | cons x r => obtain ⟨b, off, e, _⟩ := h 0 x rfl; cases e
end Go.Proofs.YtegmoeeeomjkgaaDoor
