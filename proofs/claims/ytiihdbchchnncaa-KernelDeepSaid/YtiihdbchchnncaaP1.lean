import Derived.Test.YtiihdbchchnncaaC12
namespace Go.Proofs.Ytiihdbchchnncaa
open Go Go.RowKit

/-- What a grammar that may be is. -/
structure MayB (g : GramM) : Prop where
  sorts1 : 1 ≤ g.sorts.length
  sorts2 : g.sorts.length ≤ 1000
  prods : g.prods.length ≤ 1000
  left : ∀ x, x ∈ g.prods → ∃ k : Nat, x.left = k ∧ k < g.sorts.length
  right : ∀ x, x ∈ g.prods → x.right.length ≤ 30
  kind : ∀ x, x ∈ g.prods → ∀ s, s ∈ x.right → s.kind = 0 ∨ s.kind = 1
  sym : ∀ x, x ∈ g.prods → ∀ s, s ∈ x.right → s.kind = 1 → ∃ k : Nat, s.sort = k ∧ k < g.sorts.length
  start : ∃ k : Nat, g.start = k ∧ k < g.sorts.length
  forb : ∀ f, f ∈ g.forbid → (∃ k : Nat, f.parent = k ∧ k < g.prods.length) ∧ (∃ k : Nat, f.child = k ∧ k < g.prods.length)
  fol : ∀ f, f ∈ g.follow → ∃ k : Nat, f.sort = k ∧ k < g.sorts.length
theorem mayB_of {g : GramM} (h : checkB g = true) : MayB g := by
  unfold checkB sortsB' startB prodsB forbidsB followsB at h
  simp only [Bool.and_eq_true, decide_eq_true_eq, List.all_eq_true] at h
  obtain ⟨⟨h1, h2, h3, h4⟩, h5, ⟨h6, h7⟩, ⟨h8, h9⟩, h10, h11⟩ := h
  have hp : ∀ x, x ∈ g.prods → numB x.left g.sorts.length = true ∧ x.right.length ≤ 30 ∧ ∀ s, s ∈ x.right → symB g.sorts.length s = true := fun x hx => by
    have := h7 x hx
    unfold prodB at this
    simp only [Bool.and_eq_true, decide_eq_true_eq, List.all_eq_true] at this
    exact ⟨this.1, this.2.1, this.2.2.1⟩
  refine ⟨h1, h2, h6, fun x hx => numB_nat (hp x hx).1, fun x hx => (hp x hx).2.1, fun x hx s hs => ?_, fun x hx s hs hk => ?_, numB_nat h5, fun f hf => ?_, fun f hf => ?_⟩
  · have := (hp x hx).2.2 s hs
    unfold symB at this
    by_cases e : s.kind = 0
    · exact .inl e
    · rw [if_neg e] at this
      by_cases e1 : s.kind = 1
      · exact .inr e1
      · rw [if_neg e1] at this; cases this
  · have := (hp x hx).2.2 s hs
    unfold symB at this
    rw [if_neg (by rw [hk]; decide), if_pos hk, Bool.and_eq_true] at this
    exact numB_nat this.2
  · have := h9 f hf
    unfold forbidB at this
    simp only [Bool.and_eq_true] at this
    exact ⟨numB_nat this.1, numB_nat this.2.1⟩
  · have := h10 f hf
    unfold folB at this
    simp only [Bool.and_eq_true] at this
    exact numB_nat this.1

/-- A sort is productive. -/
inductive PV (g : GramM) : Nat → Prop
  | mk (x : ProdM) (hx : x ∈ g.prods) (hr : x.role ≠ 11) (h : ∀ s, s ∈ x.right → s.kind = 1 → PV g s.sort.toNat) : PV g x.left.toNat

/-- What a list of bools says of a number. -/
def lv (L : List Bool) (i : Int) : Bool := L.getD i.toNat false
def okP (L : List Bool) (x : ProdM) : Bool := !(x.role == 11) && sortsB (lv L) x
def Sound (g : GramM) (L : List Bool) : Prop := ∀ k : Nat, L[k]? = some true → PV g k
def Closed (g : GramM) (L : List Bool) : Prop := ∀ x, x ∈ g.prods → okP L x = true → lv L x.left = true
theorem lv_true {L : List Bool} {i : Int} (h : lv L i = true) : L[i.toNat]? = some true := by
  unfold lv at h
  rw [List.getD_eq_getElem?_getD] at h
  cases e : L[i.toNat]? with
  | none => rw [e] at h; cases h
  | some b => rw [e] at h; simp at h; rw [h]
theorem lv_some {L : List Bool} {i : Int} (h : L[i.toNat]? = some true) : lv L i = true := by
  unfold lv
  rw [List.getD_eq_getElem?_getD, h]; rfl
theorem okP_pv {g : GramM} {L : List Bool} (hS : Sound g L) {x : ProdM} (hx : x ∈ g.prods) (h : okP L x = true) : PV g x.left.toNat := by
  unfold okP sortsB at h
  rw [Bool.and_eq_true, List.all_eq_true] at h
  refine PV.mk x hx (fun e => by rw [e] at h; simp at h) (fun s hs hk => ?_)
  have := h.2 s hs
  unfold sortB at this
  rw [hk] at this
  simp at this
  exact hS _ (lv_true this)
theorem sound_set {g : GramM} {L : List Bool} (hS : Sound g L) {x : ProdM} (hx : x ∈ g.prods) (h : okP L x = true) : Sound g (L.set x.left.toNat true) := by
  intro k hk
  rw [List.getElem?_set] at hk
  split at hk
  · next e => subst e; exact okP_pv hS hx h
  · exact hS k hk
theorem closed_pv {g : GramM} {L : List Bool} (hC : Closed g L) {k : Nat} (h : PV g k) : L[k]? = some true := by
  induction h with
  | mk x hx hr _ ih =>
    refine lv_true (hC x hx ?_)
    unfold okP sortsB
    rw [Bool.and_eq_true, List.all_eq_true]
    refine ⟨by simpa using hr, fun s hs => ?_⟩
    unfold sortB
    by_cases e : s.kind = 1
    · rw [lv_some (ih s hs e)]; simp
    · have : (s.kind == 1) = false := by simpa using e
      rw [this]; rfl
/-- The list tells which sorts are productive. -/
def Live (g : GramM) (L : List Bool) : Prop := L.length = g.sorts.length ∧ ∀ k : Nat, L[k]? = some true ↔ PV g k
theorem live_of {g : GramM} {L : List Bool} (hl : L.length = g.sorts.length) (hS : Sound g L) (hC : Closed g L) : Live g L := ⟨hl, fun k => ⟨hS k, closed_pv hC⟩⟩
theorem Live.unique {g : GramM} {L L' : List Bool} (h : Live g L) (h' : Live g L') : L = L' := by
  apply List.ext_getElem?
  intro k
  by_cases hk : k < g.sorts.length
  · have e1 : L[k]? = some (L[k]'(by rw [h.1]; exact hk)) := List.getElem?_eq_getElem _
    have e2 : L'[k]? = some (L'[k]'(by rw [h'.1]; exact hk)) := List.getElem?_eq_getElem _
    rw [e1, e2]
    have a := h.2 k
    have b := h'.2 k
    rw [e1] at a
    rw [e2] at b
    simp only [Option.some.injEq] at a b ⊢
    rw [Bool.eq_iff_iff]
    exact a.trans b.symm
  · rw [List.getElem?_eq_none (by rw [h.1]; omega), List.getElem?_eq_none (by rw [h'.1]; omega)]

/-- The cells of bools. -/
def bools (L : List Bool) : Array Value := (L.map Value.bool).toArray
theorem bools_at (L : List Bool) (i : Nat) (h : i < L.length) : (bools L)[i]? = some (.bool (lv L i)) := by
  unfold bools lv
  simp [List.getElem?_eq_getElem h, List.getD_eq_getElem?_getD]
theorem bools_set (L : List Bool) (i : Nat) : (bools L).setIfInBounds i (.bool true) = bools (L.set i true) := by
  unfold bools
  rw [List.setIfInBounds_toArray, List.map_set]
theorem bools_made (n : Nat) : madeCells #[.bool false] n = bools (List.replicate n false) := by
  unfold bools madeCells
  apply Array.ext'
  simp [Nat.mod_one, List.map_const']
theorem count_set {L : List Bool} {i : Nat} (h : L[i]? = some false) : (L.set i true).count false < L.count false := by
  induction L generalizing i with
  | nil => simp at h
  | cons b r ih =>
    cases i with
    | zero => simp at h; subst h; simp
    | succ i => simp at h; simp only [List.set_cons_succ, List.count_cons]; have := ih h; omega
theorem Blk.row {w : World} {B : Nat} {L : List Bool} (h : Blk w B 4 (bools L)) : RowBool w (some ⟨B, 0, none⟩) L := fun i x hx => by
  refine ⟨B, 0, rfl, h.lt, fun j v hj => ?_, trivial⟩
  have hj0 : j = 0 := by
    have := (Array.getElem?_eq_some_iff.1 hj).1
    simp [boolC] at this; exact this
  subst hj0
  simp [boolC] at hj
  subst hj
  have hil := (List.getElem?_eq_some_iff.1 hx).1
  rw [Nat.mul_one, Nat.zero_add, Nat.add_zero, h.cell i, bools_at L i hil]
  unfold lv
  rw [List.getD_eq_getElem?_getD]
  simp [hx]
end Go.Proofs.Ytiihdbchchnncaa
