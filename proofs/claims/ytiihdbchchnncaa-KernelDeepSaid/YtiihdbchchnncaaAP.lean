import Derived.Laws.AppendOwnNone
import Derived.Test.YtiihdbchchnncaaO
namespace Go.Proofs.Ytiihdbchchnncaa
open Go Go.RowKit

theorem row_cells {α : Type} {cs : α → Array Value} {size : Nat} {G : World → α → Prop} (hk : ∀ x, (cs x).size = size) (hsz : 0 < size) {w : World} {b off : Nat} {l : List α} (h : RowOf size cs G w (some ⟨b, off, none⟩) l) :
    ∀ (j : Nat) (u : Value), (cellsL cs l)[j]? = some u → w.cell? ((⟨b, off, none⟩ : Addr).add j) = some u := by
  intro j u hj
  have hjl : j < l.length * size := by
    have := (List.getElem?_eq_some_iff.1 hj).1
    rw [cellsL_length hk] at this
    exact this
  have hi : j / size < l.length := Nat.div_lt_of_lt_mul (by rw [Nat.mul_comm]; exact hjl)
  have hr : j % size < size := Nat.mod_lt _ hsz
  have hjr : j / size * size + j % size = j := by rw [Nat.mul_comm]; exact Nat.div_add_mod j size
  obtain ⟨x, hx⟩ : ∃ x, l[j / size]? = some x := ⟨_, List.getElem?_eq_getElem hi⟩
  have hc := cellsL_at hk l (j / size) x hx (j % size) hr
  rw [hjr, hj] at hc
  obtain ⟨b', off', e, _, hcells, _⟩ := h (j / size) x hx
  cases e
  have := hcells (j % size) u hc.symm
  rw [add_off, ← hjr, ← Nat.add_assoc]
  exact this

section
variable {P : Program} {w : World} {ops : Array Oper} {rest : List Oper} {o : Oper} {a : Act} {Q : Exit → Act → World → Prop}
/-- 'append(s, x...)', x a list as it lies in memory. -/
theorem wpList_append_row {α : Type} {cs : α → Array Value} {G : World → α → Prop} (hgd : o.guard = none) (s x : Operand) (t : TypeId)
    (ho : o.op = .call { callee := .builtin .append, args := #[s, x], argTypes := #[t, t] })
    (base : Nat) (e : TypeId) (i : TypeInfo) (z : Value) (size bytes : Nat) (ht : P.underlying t = some (.slice e)) (hi : P.info? e = some i) (hz : i.zero = some z)
    (hsize : i.size = size) (hby : i.bytes = bytes) (hzs : z.cells.size = size) (hsz : 0 < size)
    (v : Value) (n : Nat) (xs : List Value) (hs : a.eval s = v) (hown : w.ownsRow base e size v n xs)
    (ad : Option Addr) (c : Nat) (l : List α) (hx : a.eval x = .slice ad l.length c) (hrow : RowOf size cs G w ad l) (hk : ∀ x, (cs x).size = size) (h1 : ∀ x, ∀ u ∈ (cs x).toList, u.oneCell' = true) (hnil : ad = none → c = 0)
    (h63 : n + l.length ≤ maxLen) (hbytes : (n + l.length) * bytes ≤ 140737488355328) (hbase : base ≤ w.heap.size)
    (h : ∀ v' w', w'.ownsRow base e size v' (n + l.length) (xs ++ cellsL cs l) → w.grownBy w' v.ownBlock → wpList P ops Q rest (a.put o.dst v') w') : wpList P ops Q (o :: rest) a w := by
  cases ad with
  | none =>
    have hl : l = [] := by
      cases l with
      | nil => rfl
      | cons y r => obtain ⟨_, _, e, _⟩ := hrow 0 y rfl; cases e
    subst hl
    rw [hnil rfl] at hx
    refine wpList_append_own_none hgd s x t ho base e i size ht hi v n xs hs hown hx (h v w ?_ (World.grownBy.refl _ _))
    simpa [cellsL] using hown
  | some p =>
    refine wpList_append_own w hgd s x t ho base e i z size bytes ht hi hz hsize hby hzs hsz v n xs hs hown p l.length c (cellsL cs l) hx (cellsL_length hk l) ?_ ?_ h63 hbytes hbase (fun v' w' r1 r2 _ => h v' w' r1 r2)
    · intro j u hj
      cases hl : l with
      | nil => rw [hl] at hj; simp [cellsL] at hj
      | cons y r =>
        obtain ⟨b, off, e, _⟩ := hrow 0 y (by rw [hl]; rfl)
        cases e
        exact row_cells hk hsz hrow j u hj
    · intro u hu
      unfold cellsL at hu
      obtain ⟨y, _, hy⟩ := List.mem_flatMap.1 hu
      exact h1 y u hy
end

/-- A store into a row of the call's own. -/
theorem own_set {w : World} {base e size n cap g : Nat} {xs : List Value} (h : w.ownsRow base e size (.slice (some ⟨g, 0, none⟩) n cap) n xs) (i : Nat) (u : Value) :
    (w.setCell ⟨g, i, none⟩ u).ownsRow base e size (.slice (some ⟨g, 0, none⟩) n cap) n (xs.set i u) := by
  refine ⟨by rw [List.length_set]; exact h.1, .inr ?_⟩
  rcases h.2 with ⟨h', _⟩ | ⟨g', cap', cur, h', h1, h2, h3, h4, h5, h6⟩
  · simp at h'
  · simp only [Value.slice.injEq, Option.some.injEq, Addr.mk.injEq, and_true, true_and] at h'
    obtain ⟨rfl, rfl⟩ := h'
    refine ⟨g, cap, cur.setIfInBounds i u, rfl, h1, Blk.set (show Blk w g e cur from h2) i u, h3, h4, by rw [Array.size_setIfInBounds]; exact h5, ?_⟩
    rw [Array.toList_setIfInBounds, ← h6, List.take_set]
end Go.Proofs.Ytiihdbchchnncaa
