import Derived.Test.YtiihdbchchnncaaP2
namespace Go.Proofs.Ytiihdbchchnncaa
open Go Go.RowKit

/-- From a sort to one in a production of it all of whose sorts are live. -/
def Edge (g : GramM) (L : List Bool) (k t : Nat) : Prop := ∃ x, x ∈ g.prods ∧ x.left = k ∧ sortsB (lv L) x = true ∧ ∃ s, s ∈ x.right ∧ s.kind = 1 ∧ s.sort = t
inductive RF (g : GramM) (L : List Bool) (j : Nat) : Nat → Prop
  | refl : RF g L j j
  | step {k t : Nat} : RF g L j k → Edge g L k t → RF g L j t
theorem RF.trans {g : GramM} {L : List Bool} {a b c : Nat} (h : RF g L a b) (k : RF g L b c) : RF g L a c := by
  induction k with
  | refl => exact h
  | step _ e ih => exact ih.step e

/-- On the way: what has been marked since M1, from j on. -/
structure Mid (g : GramM) (L : List Bool) (j : Nat) (M1 M : List Bool) : Prop where
  len : M.length = M1.length
  le : ∀ k : Nat, M1[k]? = some true → M[k]? = some true
  closed : ∀ k t : Nat, M[k]? = some true → M1[k]? ≠ some true → Edge g L k t → M[t]? = some true
  sound : ∀ k : Nat, M[k]? = some true → M1[k]? = some true ∨ RF g L j k
def Grew (g : GramM) (L : List Bool) (j : Nat) (M1 M : List Bool) : Prop := Mid g L j M1 M ∧ M[j]? = some true
theorem Mid.refl (g : GramM) (L : List Bool) (j : Nat) (M : List Bool) : Mid g L j M M := ⟨rfl, fun _ h => h, fun _ _ h h2 => absurd h h2, fun _ h => .inl h⟩
theorem Mid.call {g : GramM} {L : List Bool} {j t : Nat} {M1 M M' : List Bool} (h : Mid g L j M1 M) (he : Edge g L j t) (hg : Grew g L t M M') : Mid g L j M1 M' := by
  obtain ⟨h2, _⟩ := hg
  refine ⟨h2.len.trans h.len, fun k hk => h2.le k (h.le k hk), fun k u hk hn e => ?_, fun k hk => ?_⟩
  · by_cases c : M[k]? = some true
    · exact h2.le u (h.closed k u c hn e)
    · exact h2.closed k u hk c e
  · rcases h2.sound k hk with c | c
    · exact h.sound k c
    · exact .inr ((RF.refl.step he).trans c)
/-- Productions of j that have been gone over. -/
def Done (g : GramM) (L : List Bool) (j : Nat) (l : List ProdM) (M : List Bool) : Prop := ∀ x, x ∈ l → x.left = j → sortsB (lv L) x = true → ∀ s, s ∈ x.right → s.kind = 1 → M[s.sort.toNat]? = some true
theorem grew_of {g : GramM} {L : List Bool} {j : Nat} {M M' : List Bool} (hj : j < M.length) (h : Mid g L j (M.set j true) M') (hd : Done g L j g.prods M') : Grew g L j M M' := by
  have hset : (M.set j true)[j]? = some true := by simp [hj]
  refine ⟨⟨by rw [h.len, List.length_set], fun k hk => h.le k ?_, fun k t hk hn e => ?_, fun k hk => ?_⟩, h.le j hset⟩
  · rw [List.getElem?_set]
    split
    · next e => subst e; simp [hj]
    · exact hk
  · by_cases c : k = j
    · subst c
      obtain ⟨x, hx, hl, hs, s, hsx, hk1, hst⟩ := e
      have := hd x hx hl hs s hsx hk1
      rw [hst, Int.toNat_natCast] at this
      exact this
    · refine h.closed k t hk (fun h2 => hn ?_) e
      rw [List.getElem?_set_ne (fun h => c h.symm)] at h2
      exact h2
  · rcases h.sound k hk with c | c
    · by_cases e : k = j
      · subst e; exact .inr RF.refl
      · rw [List.getElem?_set_ne (fun h => e h.symm)] at c
        exact .inl c
    · exact .inr c
theorem grew_self {g : GramM} {L : List Bool} {j : Nat} {M : List Bool} (h : M[j]? = some true) : Grew g L j M M := ⟨Mid.refl _ _ _ _, h⟩
theorem count_le : ∀ {M M' : List Bool}, M'.length = M.length → (∀ k : Nat, M[k]? = some true → M'[k]? = some true) → M'.count false ≤ M.count false := by
  intro M
  induction M with
  | nil => intro M' h _; cases M' with | nil => exact Nat.le_refl _ | cons _ _ => simp at h
  | cons b r ih =>
    intro M' h hk
    cases M' with
    | nil => simp at h
    | cons c s =>
      have := ih (M' := s) (by simpa using h) (fun k hh => by simpa using hk (k + 1) (by simpa using hh))
      simp only [List.count_cons]
      cases b with
      | false => cases c <;> simp <;> omega
      | true =>
        have := hk 0 rfl
        simp at this
        subst this
        simpa using ih (M' := s) (by simpa using h) (fun k hh => by simpa using hk (k + 1) (by simpa using hh))

/-- What the visit's blocks hold: w0: the world when the call began. -/
structure VI (g : GramM) (L : List Bool) (w0 : World) (aL : Option Addr) (cL Bg Bl Q Bm Bv : Nat) (M : List Bool) (w : World) : Prop where
  b : Below w0.heap.size w0 w
  bg : Blk w Bg 27 (gramC g)
  bl : Blk w Bl 82 #[.slice aL L.length cL]
  bm : Blk w Bm 82 #[.slice (some ⟨Q, 0, none⟩) g.sorts.length g.sorts.length]
  bv : Blk w Bv 105 #[.func (.func 56) #[] #[.pointer (some ⟨Bm, 0, none⟩), .pointer (some ⟨Bg, 0, none⟩), .pointer (some ⟨Bl, 0, none⟩), .pointer (some ⟨Bv, 0, none⟩)]]
  q : Blk w Q 4 (bools M)
  len : M.length = g.sorts.length
structure VK (w0 : World) (Bg Bl Q Bm Bv : Nat) : Prop where
  q : w0.heap.size ≤ Q
  g : Bg ≠ Q
  l : Bl ≠ Q
  m : Bm ≠ Q
  v : Bv ≠ Q
theorem VI.grown {g : GramM} {L : List Bool} {w0 : World} {aL : Option Addr} {cL Bg Bl Q Bm Bv : Nat} {M M' : List Bool} {w W : World} (h : VI g L w0 aL cL Bg Bl Q Bm Bv M w) (k : VK w0 Bg Bl Q Bm Bv)
    (hg : w.grownBy W (some Q)) (hq : Blk W Q 4 (bools M')) (hl : M'.length = M.length) : VI g L w0 aL cL Bg Bl Q Bm Bv M' W :=
  ⟨h.b.grown hg h.b.size (fun j hj => by cases hj; exact k.q), h.bg.kept hg (fun e => k.g (by simpa using e)), h.bl.kept hg (fun e => k.l (by simpa using e)), h.bm.kept hg (fun e => k.m (by simpa using e)), h.bv.kept hg (fun e => k.v (by simpa using e)), hq, hl.trans h.len⟩
theorem grown_of_below {w W : World} (h : Below w.heap.size w W) (r : Option Nat) : w.grownBy W r := ⟨h.os, h.tape, h.output, h.size, fun k hk _ => h.block k hk⟩
theorem VI.below {g : GramM} {L : List Bool} {w0 : World} {aL : Option Addr} {cL Bg Bl Q Bm Bv : Nat} {M : List Bool} {w W : World} (h : VI g L w0 aL cL Bg Bl Q Bm Bv M w) (k : VK w0 Bg Bl Q Bm Bv)
    (hB : Below w.heap.size w W) : VI g L w0 aL cL Bg Bl Q Bm Bv M W := h.grown k (grown_of_below hB _) (h.q.below hB h.q.lt) rfl
theorem grown_trans {A B C : World} {r : Option Nat} (h : A.grownBy B r) (k : B.grownBy C r) : A.grownBy C r := h.andThen k (fun j e => .inr e)
theorem grown_set (W : World) (Q k : Nat) (v : Value) : W.grownBy (W.setCell ⟨Q, k, none⟩ v) (some Q) :=
  ⟨rfl, rfl, rfl, by rw [World.size_setCell]; exact Nat.le_refl _, fun j hj hne => Below.heap_setCell W ⟨Q, k, none⟩ v j (fun e => hne (by show some j = some Q; rw [show j = Q from e]))⟩
end Go.Proofs.Ytiihdbchchnncaa
