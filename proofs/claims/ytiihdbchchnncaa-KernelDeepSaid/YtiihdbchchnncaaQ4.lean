import Derived.Test.YtiihdbchchnncaaQ3
namespace Go.Proofs.Ytiihdbchchnncaa
open Go Go.RowKit

theorem Try.info9 : (Try.prog.info? 9).map (fun i => (i.zero, i.size, i.bytes)) = some (some (.string ⟨#[]⟩), 1, 16) := by kernel_rfl
theorem Try.info46 : (Try.prog.info? 46).map (fun i => (i.zero, i.size, i.bytes)) = some (some (.agg #[.int .i64 0, .slice none 0 0, .string ⟨#[]⟩, .int .i64 0, .bool false, .bool false, .int .i64 0]), 7, 72) := by kernel_rfl
theorem Try.info78 : (Try.prog.info? 78).map (fun i => (i.zero, i.size, i.bytes)) = some (some (.agg #[.int .i64 0, .int .i64 0, .int .i64 0]), 3, 24) := by kernel_rfl
theorem Try.info80 : (Try.prog.info? 80).map (fun i => (i.zero, i.size, i.bytes)) = some (some (.agg #[.int .i64 0, .int .u64 0, .int .u64 0, .int .u64 0, .int .u64 0]), 5, 40) := by kernel_rfl

/-- Of a list those whose numbers stay. -/
def keepL {α : Type} (p : Nat → Bool) (l : List α) : List α := (l.zipIdx.filter fun q => p q.2).map (·.1)
theorem keepL_snoc {α : Type} (p : Nat → Bool) (l : List α) (x : α) : keepL p (l ++ [x]) = keepL p l ++ if p l.length then [x] else [] := by
  unfold keepL
  rw [List.zipIdx_append, List.filter_append, List.map_append]
  congr 1
  simp only [List.zipIdx_cons, List.zipIdx_nil, List.filter_cons, List.filter_nil, Nat.zero_add]
  split <;> simp
theorem keepL_len {α : Type} (p : Nat → Bool) (l : List α) : (keepL p l).length ≤ l.length := by
  unfold keepL
  rw [List.length_map]
  exact Nat.le_trans (List.length_filter_le _ _) (by simp)
/-- What is forbidden, moved, if it stays. -/
def movF (p : Nat → Bool) (f : ForM) : Option ForM := if plI p f.parent.toNat ≠ -1 ∧ plI p f.child.toNat ≠ -1 then some ⟨plI p f.parent.toNat, f.at_, plI p f.child.toNat⟩ else none
def movW (p : Nat → Bool) (f : FolM) : Option FolM := if plI p f.sort.toNat ≠ -1 then some ⟨plI p f.sort.toNat, f.not⟩ else none
/-- A production, wherever its symbols lie. -/
def bareP (x : ProdM) : ProdM := ⟨x.left, none, 0, x.right, x.cons, x.role, x.prefer, x.avoid, x.frm⟩

/-- Rows of unlike things lie apart. -/
theorem own_other {w W : World} {b b' e e' s s' : Nat} {v v' : Value} {n n' : Nat} {xs xs' : List Value} (h : w.ownsRow b e s v n xs) (h' : w.ownsRow b' e' s' v' n' xs') (hne : e ≠ e') (hg : w.grownBy W v'.ownBlock) : W.ownsRow b e s v n xs := by
  refine ⟨h.1, ?_⟩
  rcases h.2 with h1 | ⟨g, cap, cur, h1, h2, h3, h4⟩
  · exact .inl h1
  · refine .inr ⟨g, cap, cur, h1, h2, ?_, h4⟩
    rw [hg.block g (Array.getElem?_eq_some_iff.1 h3).1 (fun e1 => ?_)]
    · exact h3
    · rcases h'.2 with ⟨rfl, _⟩ | ⟨g', cap', cur', rfl, _, h3', _⟩
      · cases e1
      · have : g = g' := by simpa [Value.ownBlock] using e1
        subst this
        rw [h3] at h3'
        cases h3'
        exact hne rfl
theorem low_ne {w : World} {base e size : Nat} {v : Value} {n : Nat} {xs : List Value} (h : w.ownsRow base e size v n xs) {B : Nat} (hB : B < base) : some B ≠ v.ownBlock := by
  rcases h.2 with ⟨rfl, _⟩ | ⟨g, cap, cur, rfl, hg, _⟩
  · intro e; cases e
  · intro e
    have : B = g := by simpa [Value.ownBlock] using e
    omega
theorem own_put {w : World} {base e size : Nat} {v : Value} {n : Nat} {xs : List Value} (h : w.ownsRow base e size v n xs) {B i : Nat} (hB : B < base) (u : Value) : (w.setCell ⟨B, i, none⟩ u).ownsRow base e size v n xs := ownsRow_setCell_below h (a := ⟨B, i, none⟩) hB u

/-- What kept's blocks hold: N0: from where on it makes its rows. -/
structure KS (g : GramM) (pS pP : Nat → Bool) (w : World) (P1 P2 Bo N0 : Nat) (st : Int) (v0 v1 v3 v4 : Value) (ss : List ByteArray) (ps : List ProdM) (fs : List ForM) (ws : List FolM) (wr : World) : Prop where
  n0 : w.heap.size + 2 < N0 ∧ P1 < N0 ∧ P2 < N0 ∧ Bo < N0 ∧ w.heap.size + 2 < Bo ∧ P1 ≠ Bo ∧ P2 ≠ Bo
  bg : Blk wr w.heap.size 27 (gramC g)
  bo : Blk wr Bo 27 #[v0, v1, .int .i64 st, v3, v4]
  br : Blk wr (w.heap.size + 2) 27 #[.slice none 0 0, .slice none 0 0, .int .i64 0, .slice none 0 0, .slice none 0 0]
  p1 : PL wr P1 g.sorts.length pS
  p2 : PL wr P2 g.prods.length pP
  b : Below w.heap.size w wr
  r0 : wr.ownsRow N0 9 1 v0 ss.length (cellsL strC ss)
  r1 : wr.ownsRow N0 46 7 v1 ps.length (cellsL prodC ps)
  r3 : wr.ownsRow N0 78 3 v3 fs.length (cellsL forC fs)
  r4 : wr.ownsRow N0 80 5 v4 ws.length (cellsL folC ws)
  rs : ∀ x, x ∈ ps → wr.ownsRow N0 68 6 (.slice x.ra x.right.length x.rc) x.right.length (cellsL symC x.right)
  lt : N0 ≤ wr.heap.size

section
variable {g : GramM} {pS pP : Nat → Bool} {w : World} {P1 P2 Bo N0 : Nat} {st : Int} {v0 v1 v3 v4 : Value} {ss : List ByteArray} {ps : List ProdM} {fs : List ForM} {ws : List FolM} {wr W : World}
theorem KS.below (h : KS g pS pP w P1 P2 Bo N0 st v0 v1 v3 v4 ss ps fs ws wr) (hB : Below wr.heap.size wr W) : KS g pS pP w P1 P2 Bo N0 st v0 v1 v3 v4 ss ps fs ws W :=
  ⟨h.n0, h.bg.below hB h.bg.lt, h.bo.below hB h.bo.lt, h.br.below hB h.br.lt, h.p1.below hB h.p1.lt, h.p2.below hB h.p2.lt, h.b.trans (hB.mono h.b.size), own_below h.r0 hB (Nat.le_refl _), own_below h.r1 hB (Nat.le_refl _), own_below h.r3 hB (Nat.le_refl _), own_below h.r4 hB (Nat.le_refl _),
    fun x hx => own_below (h.rs x hx) hB (Nat.le_refl _), Nat.le_trans h.lt hB.size⟩
theorem PL.put {w : World} {B n : Nat} {p : Nat → Bool} (h : PL w B n p) {Q i : Nat} (hne : B ≠ Q) (u : Value) : PL (w.setCell ⟨Q, i, none⟩ u) B n p := by
  obtain ⟨cs, h1, h2⟩ := h
  exact ⟨cs, h1.other (a := ⟨Q, i, none⟩) hne u, h2⟩
/-- What an append to one of the rows leaves of the rest. -/
theorem KS.low {v' : Value} {e size n : Nat} {xs : List Value} (h : KS g pS pP w P1 P2 Bo N0 st v0 v1 v3 v4 ss ps fs ws wr) (hv : wr.ownsRow N0 e size v' n xs) (hg : wr.grownBy W v'.ownBlock) (i : Nat) (u : Value) :
    Blk (W.setCell ⟨Bo, i, none⟩ u) w.heap.size 27 (gramC g) ∧ Blk (W.setCell ⟨Bo, i, none⟩ u) Bo 27 ((#[v0, v1, .int .i64 st, v3, v4] : Array Value).setIfInBounds i u) ∧
    Blk (W.setCell ⟨Bo, i, none⟩ u) (w.heap.size + 2) 27 #[.slice none 0 0, .slice none 0 0, .int .i64 0, .slice none 0 0, .slice none 0 0] ∧ PL (W.setCell ⟨Bo, i, none⟩ u) P1 g.sorts.length pS ∧ PL (W.setCell ⟨Bo, i, none⟩ u) P2 g.prods.length pP ∧
    Below w.heap.size w (W.setCell ⟨Bo, i, none⟩ u) ∧ N0 ≤ (W.setCell ⟨Bo, i, none⟩ u).heap.size := by
  obtain ⟨a1, a2, a3, a4, a5, a6, a7⟩ := h.n0
  refine ⟨(h.bg.kept hg (low_ne hv (by omega))).other (by show w.heap.size ≠ Bo; omega) _, (h.bo.kept hg (low_ne hv a4)).set i u, (h.br.kept hg (low_ne hv (by omega))).other (by show w.heap.size + 2 ≠ Bo; omega) _,
    (h.p1.kept hg (low_ne hv a2)).put a6 _, (h.p2.kept hg (low_ne hv a3)).put a7 _, ?_, ?_⟩
  · refine (h.b.grown hg h.b.size fun j ej => ?_).setCell (p := ⟨Bo, i, none⟩) (by show w.heap.size ≤ Bo; omega) _
    rcases hv.2 with ⟨rfl, _⟩ | ⟨q, cap, cur, rfl, hq, _⟩
    · cases ej
    · have : q = j := by simpa [Value.ownBlock] using ej
      omega
  · rw [World.size_setCell]; exact Nat.le_trans h.lt hg.size
theorem KS.push0 (h : KS g pS pP w P1 P2 Bo N0 st v0 v1 v3 v4 ss ps fs ws wr) (s : ByteArray) (v : Value) (hg : wr.grownBy W v0.ownBlock) (hn : W.ownsRow N0 9 1 v (ss.length + 1) (cellsL strC ss ++ [.string s])) :
    KS g pS pP w P1 P2 Bo N0 st v v1 v3 v4 (ss ++ [s]) ps fs ws (W.setCell ⟨Bo, 0, none⟩ v) := by
  obtain ⟨b1, b2, b3, b4, b5, b6, b7⟩ := h.low h.r0 hg 0 v
  have hb : Bo < N0 := h.n0.2.2.2.1
  refine ⟨h.n0, b1, by simpa using b2, b3, b4, b5, b6, own_put (by rw [cellsL_snoc, List.length_append]; exact hn) hb _, own_put (own_other h.r1 h.r0 (by decide) hg) hb _, own_put (own_other h.r3 h.r0 (by decide) hg) hb _, own_put (own_other h.r4 h.r0 (by decide) hg) hb _,
    fun x hx => own_put (own_other (h.rs x hx) h.r0 (by decide) hg) hb _, b7⟩
theorem KS.push1 (h : KS g pS pP w P1 P2 Bo N0 st v0 v1 v3 v4 ss ps fs ws wr) (s : ProdM) (v : Value) (hs : wr.ownsRow N0 68 6 (.slice s.ra s.right.length s.rc) s.right.length (cellsL symC s.right)) (hg : wr.grownBy W v1.ownBlock)
    (hn : W.ownsRow N0 46 7 v (ps.length + 1) (cellsL prodC ps ++ (prodC s).toList)) :
    KS g pS pP w P1 P2 Bo N0 st v0 v v3 v4 ss (ps ++ [s]) fs ws (W.setCell ⟨Bo, 1, none⟩ v) := by
  obtain ⟨b1, b2, b3, b4, b5, b6, b7⟩ := h.low h.r1 hg 1 v
  have hb : Bo < N0 := h.n0.2.2.2.1
  refine ⟨h.n0, b1, by simpa using b2, b3, b4, b5, b6, own_put (own_other h.r0 h.r1 (by decide) hg) hb _, own_put (by rw [cellsL_snoc, List.length_append]; exact hn) hb _, own_put (own_other h.r3 h.r1 (by decide) hg) hb _, own_put (own_other h.r4 h.r1 (by decide) hg) hb _,
    fun x hx => ?_, b7⟩
  rcases List.mem_append.1 hx with hx | hx
  · exact own_put (own_other (h.rs x hx) h.r1 (by decide) hg) hb _
  · simp at hx; subst hx; exact own_put (own_other hs h.r1 (by decide) hg) hb _
theorem KS.push3 (h : KS g pS pP w P1 P2 Bo N0 st v0 v1 v3 v4 ss ps fs ws wr) (s : ForM) (v : Value) (hg : wr.grownBy W v3.ownBlock) (hn : W.ownsRow N0 78 3 v (fs.length + 1) (cellsL forC fs ++ (forC s).toList)) :
    KS g pS pP w P1 P2 Bo N0 st v0 v1 v v4 ss ps (fs ++ [s]) ws (W.setCell ⟨Bo, 3, none⟩ v) := by
  obtain ⟨b1, b2, b3, b4, b5, b6, b7⟩ := h.low h.r3 hg 3 v
  have hb : Bo < N0 := h.n0.2.2.2.1
  exact ⟨h.n0, b1, by simpa using b2, b3, b4, b5, b6, own_put (own_other h.r0 h.r3 (by decide) hg) hb _, own_put (own_other h.r1 h.r3 (by decide) hg) hb _, own_put (by rw [cellsL_snoc, List.length_append]; exact hn) hb _, own_put (own_other h.r4 h.r3 (by decide) hg) hb _,
    fun x hx => own_put (own_other (h.rs x hx) h.r3 (by decide) hg) hb _, b7⟩
theorem KS.push4 (h : KS g pS pP w P1 P2 Bo N0 st v0 v1 v3 v4 ss ps fs ws wr) (s : FolM) (v : Value) (hg : wr.grownBy W v4.ownBlock) (hn : W.ownsRow N0 80 5 v (ws.length + 1) (cellsL folC ws ++ (folC s).toList)) :
    KS g pS pP w P1 P2 Bo N0 st v0 v1 v3 v ss ps fs (ws ++ [s]) (W.setCell ⟨Bo, 4, none⟩ v) := by
  obtain ⟨b1, b2, b3, b4, b5, b6, b7⟩ := h.low h.r4 hg 4 v
  have hb : Bo < N0 := h.n0.2.2.2.1
  exact ⟨h.n0, b1, by simpa using b2, b3, b4, b5, b6, own_put (own_other h.r0 h.r4 (by decide) hg) hb _, own_put (own_other h.r1 h.r4 (by decide) hg) hb _, own_put (own_other h.r3 h.r4 (by decide) hg) hb _, own_put (by rw [cellsL_snoc, List.length_append]; exact hn) hb _,
    fun x hx => own_put (own_other (h.rs x hx) h.r4 (by decide) hg) hb _, b7⟩
end
end Go.Proofs.Ytiihdbchchnncaa
