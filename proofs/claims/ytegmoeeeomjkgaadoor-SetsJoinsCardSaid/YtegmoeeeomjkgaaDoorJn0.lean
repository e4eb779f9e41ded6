import Derived.Test.YtegmoeeeomjkgaaDoorMk2
import Derived.Test.YtegmoeeeomjkgaaDoorRefG
import Derived.Test.YtegmoeeeomjkgaaDoorRefH
import Derived.Test.YtegmoeeeomjkgaaDoorGo
namespace Go.Proofs.YtegmoeeeomjkgaaDoor
open Go Go.RowKit Go.Shelf

theorem Tryd.info29 : (Tryd.prog.info? 29).map (fun i => (i.zero, i.size, i.bytes)) = some (some (.agg #[.int .u64 0, .int .u64 0, .int .u64 0, .int .u64 0]), 4, 32) := by kernel_rfl

/-- The cells of sets. -/
def cellsB (l : List BS) : List Value := l.flatMap fun x => [.int .u64 (wdI x 0), .int .u64 (wdI x 1), .int .u64 (wdI x 2), .int .u64 (wdI x 3)]
theorem cellsB_length (l : List BS) : (cellsB l).length = l.length * 4 := by
  induction l with
  | nil => rfl
  | cons r rs ih => simp [cellsB] at ih ⊢; omega
theorem cellsB_at (l : List BS) : ∀ (i : Nat) (x : BS), l[i]? = some x → (cellsB l)[i * 4]? = some (.int .u64 (wdI x 0)) ∧ (cellsB l)[i * 4 + 1]? = some (.int .u64 (wdI x 1)) ∧ (cellsB l)[i * 4 + 2]? = some (.int .u64 (wdI x 2)) ∧ (cellsB l)[i * 4 + 3]? = some (.int .u64 (wdI x 3)) := by
  induction l with
  | nil => intro i x hx; simp at hx
  | cons r rs ih =>
    intro i x hx
    have hc : cellsB (r :: rs) = .int .u64 (wdI r 0) :: .int .u64 (wdI r 1) :: .int .u64 (wdI r 2) :: .int .u64 (wdI r 3) :: cellsB rs := by simp [cellsB]
    rw [hc]
    cases i with
    | zero => simp at hx; subst hx; exact ⟨rfl, rfl, rfl, rfl⟩
    | succ i =>
      have h := ih i x (by simpa using hx)
      have e1 : (i + 1) * 4 = i * 4 + 1 + 1 + 1 + 1 := by omega
      rw [e1]
      simpa using h
theorem one_B (l : List BS) : ∀ u ∈ cellsB l, u.oneCell' = true := by
  intro u hu
  unfold cellsB at hu
  obtain ⟨x, _, hx⟩ := List.mem_flatMap.1 hu
  simp at hx
  rcases hx with rfl | rfl | rfl | rfl <;> rfl

theorem news_B {w : World} {ad : Addr} {l : List BS} (hd : RowB w (some ad) l) : ∀ j u, (cellsB l)[j]? = some u → w.cell? (ad.add j) = some u := by
  intro j u hu
  have hj : j < l.length * 4 := by
    have := (List.getElem?_eq_some_iff.1 hu).1
    rwa [cellsB_length] at this
  have hi : j / 4 < l.length := by omega
  obtain ⟨b, off, hab, h0, h1, h2, h3⟩ := hd (j / 4) l[j / 4] (List.getElem?_eq_getElem hi)
  cases hab
  obtain ⟨k0, k1, k2, k3⟩ := cellsB_at l (j / 4) l[j / 4] (List.getElem?_eq_getElem hi)
  rw [add_zero_off]
  rcases (by omega : j % 4 = 0 ∨ j % 4 = 1 ∨ j % 4 = 2 ∨ j % 4 = 3) with h | h | h | h
  · have e : j = j / 4 * 4 := by omega
    rw [← e] at h0 k0
    rw [h0, ← k0, hu]
  · have e : j = j / 4 * 4 + 1 := by omega
    have e2 : off + j / 4 * 4 + 1 = off + j := by omega
    rw [e2] at h1
    rw [← e] at k1
    rw [h1, ← k1, hu]
  · have e : j = j / 4 * 4 + 2 := by omega
    have e2 : off + j / 4 * 4 + 2 = off + j := by omega
    rw [e2] at h2
    rw [← e] at k2
    rw [h2, ← k2, hu]
  · have e : j = j / 4 * 4 + 3 := by omega
    have e2 : off + j / 4 * 4 + 3 = off + j := by omega
    rw [e2] at h3
    rw [← e] at k3
    rw [h3, ← k3, hu]

theorem Sent.rowB {B n g c : Nat} {last : List Value} {l : List BS} {w : World} (h : Sent B 29 4 (cellsB l) last n g c w) (hn : n = l.length) : RowB w (some ⟨g, 0, none⟩) l := by
  intro i x hx
  have hi := (List.getElem?_eq_some_iff.1 hx).1
  obtain ⟨k0, k1, k2, k3⟩ := cellsB_at l i x hx
  refine ⟨g, 0, rfl, ?_, ?_, ?_, ?_⟩
  · rw [Nat.zero_add, h.cells _ (by omega), List.getElem?_append_left (by rw [cellsB_length]; omega), k0]
  · rw [Nat.zero_add, h.cells _ (by omega), List.getElem?_append_left (by rw [cellsB_length]; omega), k1]
  · rw [Nat.zero_add, h.cells _ (by omega), List.getElem?_append_left (by rw [cellsB_length]; omega), k2]
  · rw [Nat.zero_add, h.cells _ (by omega), List.getElem?_append_left (by rw [cellsB_length]; omega), k3]
theorem row_none_B {w : World} {l : List BS} (h : RowB w none l) : l = [] := by
  cases l with
  | nil => rfl
  | cons x r => obtain ⟨b, off, e, _⟩ := h 0 x rfl; cases e
theorem RowB.below {w w' : World} {a : Option Addr} {l : List BS} {n : Nat} (h : RowB w a l) (hB : Below n w w') (hn : w.heap.size ≤ n) : RowB w' a l := by
  intro i x hx
  obtain ⟨b, off, e, h0, h1, h2, h3⟩ := h i x hx
  have := lt_of_cell h0
  exact ⟨b, off, e, (hB.cell (p := ⟨b, _, none⟩) (show b < n by omega)).trans h0, (hB.cell (p := ⟨b, _, none⟩) (show b < n by omega)).trans h1, (hB.cell (p := ⟨b, _, none⟩) (show b < n by omega)).trans h2, (hB.cell (p := ⟨b, _, none⟩) (show b < n by omega)).trans h3⟩

theorem cell_four_new (w : World) (x y z u : Value) (t : TypeId) : ∀ j v, [x, y, z, u][j]? = some v → (w.alloc (.cells #[x, y, z, u] t)).cell? ((⟨w.heap.size, 0, none⟩ : Addr).add j) = some v := by
  intro j v hj
  have hb := Blk.new w t #[x, y, z, u]
  rw [add_zero_off, Nat.zero_add, hb.cell j]
  rw [← hj]; simp

theorem goes_any (s : BS) (Bn : Nat) (a : Option Addr) (cap : Nat) (lv : Int) (w : World) (hG : Glob w) (hBn : Blk w Bn 29 (cset s)) (hl : RowY w a (bytesL s)) :
    Calls Tryd.prog 33 #[.func (.func 45) #[] #[.pointer (some ⟨Bn, 0, none⟩)], .slice a (bytesL s).length cap, .int .i64 lv] w fun e W' => e = .returned (.bool true) ∧ Below w.heap.size w W' :=
  callsIn_wide.1 (goes_in 6 (Nat.le_refl _) s Bn a cap lv w hG hBn hl)
theorem least_any (s : BS) (w : World) (hG : Glob w) : Calls Tryd.prog 22 #[vset s] w fun e W' => e = .returned (leastV (bytesL s)) ∧ Below w.heap.size w W' :=
  callsIn_wide.1 (least_in 6 (Nat.le_refl _) s w hG)
theorem bytes_at (s : BS) (w : World) : Calls Tryd.prog 32 #[vset s] w fun e w' => e = .returned (.func (.func 45) #[] #[.pointer (some ⟨w.heap.size, 0, none⟩)]) ∧ Blk w' w.heap.size 29 (cset s) ∧ Below w.heap.size w w' :=
  (callsIn_wide.1 (bytes_in 6 s w)).mono fun _ _ ⟨a, b⟩ => ⟨a, by rw [b]; exact Blk.new w 29 _, by rw [b]; exact (Below.refl _ w).alloc (Nat.le_refl _) _⟩

theorem least_cases (L : List Nat) (h : ∀ x ∈ L, x < 256) : ∃ (c : Nat) (ok : Bool), leastV L = .tuple #[.int .u8 c, .bool ok] ∧ c < 256 ∧ ((L = [] ∧ c = 0 ∧ ok = false) ∨ (∃ t, L = c :: t ∧ ok = true)) := by
  cases L with
  | nil => exact ⟨0, false, rfl, by omega, .inl ⟨rfl, rfl, rfl⟩⟩
  | cons x t => exact ⟨x, true, rfl, h x (by simp), .inr ⟨t, rfl, rfl⟩⟩
end Go.Proofs.YtegmoeeeomjkgaaDoor
