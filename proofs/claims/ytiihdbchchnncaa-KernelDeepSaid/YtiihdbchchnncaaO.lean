import Derived.Lib.OwnKind
import Derived.Deep.AppendLies
import Derived.Maps.AppendAt
import Derived.RangeFuncBox
import Derived.Test.YtiihdbchchnncaaA
namespace Go.Proofs.Ytiihdbchchnncaa
open Go Go.RowKit

/-- The cells of a list of things. -/
def cellsL {α : Type} (cs : α → Array Value) (l : List α) : List Value := l.flatMap fun x => (cs x).toList
theorem cellsL_snoc {α : Type} (cs : α → Array Value) (l : List α) (x : α) : cellsL cs (l ++ [x]) = cellsL cs l ++ (cs x).toList := by simp [cellsL]
theorem cellsL_length {α : Type} {cs : α → Array Value} {k : Nat} (hk : ∀ x, (cs x).size = k) (l : List α) : (cellsL cs l).length = l.length * k := by
  induction l with
  | nil => simp [cellsL]
  | cons x r ih =>
    have e : cellsL cs (x :: r) = (cs x).toList ++ cellsL cs r := by simp [cellsL]
    rw [e, List.length_append, ih, Array.length_toList, hk, List.length_cons, Nat.succ_mul]; omega
theorem cellsL_at {α : Type} {cs : α → Array Value} {k : Nat} (hk : ∀ x, (cs x).size = k) : ∀ (l : List α) (i : Nat) (x : α), l[i]? = some x → ∀ j, j < k → (cellsL cs l)[i * k + j]? = (cs x)[j]? := by
  intro l
  induction l with
  | nil => intro i x hx; simp at hx
  | cons r rs ih =>
    intro i x hx j hj
    have hc : cellsL cs (r :: rs) = (cs r).toList ++ cellsL cs rs := by simp [cellsL]
    have hr : (cs r).toList.length = k := by rw [Array.length_toList, hk]
    rw [hc]
    cases i with
    | zero =>
      simp at hx
      subst hx
      rw [Nat.zero_mul, Nat.zero_add, List.getElem?_append_left (by omega), Array.getElem?_toList]
    | succ i =>
      have h := ih i x (by simpa using hx) j hj
      rw [List.getElem?_append_right (by rw [hr, Nat.succ_mul]; omega), ← h, hr]
      congr 1
      rw [Nat.succ_mul]; omega

/-- A slice that owns its row lies as such. -/
theorem own_row {α : Type} {cs : α → Array Value} {k : Nat} {G : World → α → Prop} (hk : ∀ x, (cs x).size = k) {w : World} {n₀ e : Nat} {v : Value} {l : List α} (h : w.ownsRow n₀ e k v l.length (cellsL cs l))
    (hG : ∀ x, x ∈ l → G w x) : ∃ a cap, v = .slice a l.length cap ∧ RowOf k cs G w a l := by
  rcases h.2 with ⟨rfl, h0⟩ | ⟨g, cap, cur, rfl, _, hg, _⟩
  · have : l = [] := List.length_eq_zero_iff.1 h0
    subst this
    exact ⟨none, 0, rfl, RowOf.nil _⟩
  · refine ⟨_, cap, rfl, fun i x hx => ⟨g, 0, rfl, (Array.getElem?_eq_some_iff.1 hg).1, fun j u hj => ?_, hG x (List.mem_of_getElem? hx)⟩⟩
    have hjk : j < k := by
      have := (Array.getElem?_eq_some_iff.1 hj).1
      rw [hk] at this; exact this
    have hil : i < l.length := (List.getElem?_eq_some_iff.1 hx).1
    have hlt : i * k + j < l.length * k := by
      have : (i + 1) * k ≤ l.length * k := Nat.mul_le_mul_right k hil
      rw [Nat.succ_mul] at this; omega
    rw [Nat.zero_add]
    exact (h.cellAt (i * k + j) hlt).trans ((cellsL_at hk l i x hx j hjk).trans hj)

theorem add_off (b off j : Nat) : (⟨b, off, none⟩ : Addr).add j = ⟨b, off + j, none⟩ := by
  unfold Addr.add
  split
  · next h => rw [h]; rfl
  · rfl
/-- The cells of a new block. -/
theorem cells_new (w : World) (cs : Array Value) (t : TypeId) : ∀ j v, cs.toList[j]? = some v → (w.alloc (.cells cs t)).cell? ((⟨w.heap.size, 0, none⟩ : Addr).add j) = some v := by
  intro j v hj
  rw [add_off, Nat.zero_add, (Blk.new w t cs).cell j]
  simpa using hj

theorem own_below {w w' : World} {base : Nat} {e : TypeId} {size : Nat} {v : Value} {n : Nat} {xs : List Value} {N : Nat} (h : w.ownsRow base e size v n xs) (hB : Below N w w') (hN : w.heap.size ≤ N) : w'.ownsRow base e size v n xs := by
  refine ⟨h.1, ?_⟩
  rcases h.2 with h | ⟨g, cap, cur, h1, h2, h3, h4⟩
  · exact .inl h
  · exact .inr ⟨g, cap, cur, h1, h2, (hB.block g (Nat.lt_of_lt_of_le (Array.getElem?_eq_some_iff.1 h3).1 hN)).trans h3, h4⟩
theorem own_mono {w : World} {b b' : Nat} {e : TypeId} {size : Nat} {v : Value} {n : Nat} {xs : List Value} (h : w.ownsRow b e size v n xs) (hb : b' ≤ b) : w.ownsRow b' e size v n xs := by
  refine ⟨h.1, ?_⟩
  rcases h.2 with h1 | ⟨g, cap, cur, h1, h2, h3⟩
  · exact .inl h1
  · exact .inr ⟨g, cap, cur, h1, Nat.le_trans hb h2, h3⟩
/-- What an append to a row of the call's own leaves of the rest. -/
theorem own_fin {e size : Nat} {w w1 w' : World} {n₀ : Nat} {v : Value} {n : Nat} {xs : List Value} (hown : w1.ownsRow n₀ e size v n xs) (hB : Below n₀ w w1) (hn : n₀ ≤ w.heap.size) (hg : w1.grownBy w' v.ownBlock) : Below n₀ w w' :=
  hB.grown hg (Nat.le_trans hn hB.size) fun j ej => by
    rcases hown.2 with ⟨rfl, _⟩ | ⟨g, cap, cur, rfl, hb, _⟩
    · cases ej
    · cases ej; exact hb
end Go.Proofs.Ytiihdbchchnncaa
