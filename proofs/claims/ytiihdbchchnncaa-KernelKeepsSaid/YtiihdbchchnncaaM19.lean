import Derived.Test.YtiihdbchchnncaaM9
import Derived.Test.YtiihdbchchnncaaM11
import Derived.Test.YtiihdbchchnncaaM14
section
namespace Go.Proofs.Ytiihdbchchnncaa
open Go Go.RowKit

/-- The name of a sort. -/
def nameAt (g : GramM) (i : Int) : List UInt8 := (g.sorts.getD i.toNat ⟨#[]⟩).toList
/-- Is a symbol of the trimmed grammar one of the grammar, by sorts' names? -/
def symPB (g h : GramM) (a b : SymM) : Bool := a.kind == b.kind && (a.set == b.set && (!(a.kind == 1) || nameAt g a.sort == nameAt h b.sort))
def headPB (g h : GramM) (x q : ProdM) : Bool :=
  nameAt g x.left == nameAt h q.left && (x.cons.toList == q.cons.toList && (x.role == q.role && (x.right.length == q.right.length && (x.frm == q.frm && (x.prefer == q.prefer && x.avoid == q.avoid)))))
/-- Is a production of the trimmed grammar one of the grammar, by sorts' names? -/
def samePB (g h : GramM) (x q : ProdM) : Bool := headPB g h x q && eqL (symPB g h) x.right q.right

theorem eqL_at {α : Type} {q : α → α → Bool} : ∀ {l r : List α}, eqL q l r = true → ∀ (i : Nat) (x y : α), l[i]? = some x → r[i]? = some y → q x y = true := by
  intro l
  induction l with
  | nil => intro r _ i x y h; simp at h
  | cons x' l ih =>
    intro r h i x y hx hy
    cases r with
    | nil => simp at hy
    | cons y' r =>
      rw [eqL, Bool.and_eq_true] at h
      cases i with
      | zero => simp at hx hy; subst hx hy; exact h.1
      | succ i => exact ih h.2 i x y (by simpa using hx) (by simpa using hy)

/-- Sorts' names are all unlike. -/
theorem once_inj {l : List ByteArray} (h : onceA strEq [] l = true) (i j : Nat) (x y : ByteArray) (hx : l[i]? = some x) (hy : l[j]? = some y) (e : x.toList = y.toList) : i = j := by
  have e1 : strEq x y = true := by unfold strEq; rw [← toList_data, ← toList_data, e]; simp
  have e2 : strEq y x = true := by rw [strEq_comm]; exact e1
  rcases Nat.lt_trichotomy i j with h1 | h1 | h1
  · have := once_no j i x y h1 hx hy e1
    rw [h] at this; cases this
  · exact h1
  · have := once_no i j y x h1 hy hx e2
    rw [h] at this; cases this
theorem name_inj {g : GramM} (hc : checkB g = true) {i j : Nat} (hi : i < g.sorts.length) (hj : j < g.sorts.length) (h : nameAt g i = nameAt g j) : i = j := by
  unfold checkB sortsB' at hc
  simp only [Bool.and_eq_true] at hc
  refine once_inj hc.1.2.2.2 i j g.sorts[i] g.sorts[j] (List.getElem?_eq_getElem hi) (List.getElem?_eq_getElem hj) ?_
  unfold nameAt at h
  simpa [List.getD_eq_getElem?_getD, hi, hj] using h
theorem name_kept {g h : GramM} {R : List Bool} (hK : KeptM g R h) {i : Nat} (hi : sP R i = true) (hil : i < g.sorts.length) : nameAt h (plI (sP R) i) = nameAt g i := by
  unfold nameAt
  rw [plI_yes hi, Int.toNat_natCast, Int.toNat_natCast, hK.sorts]
  have h1 := keepL_at (List.getElem?_eq_getElem hil) hi
  rw [List.getD_eq_getElem?_getD, List.getD_eq_getElem?_getD, h1, List.getElem?_eq_getElem hil]

/-- What is kept is the same. -/
theorem same_kept {g h : GramM} {R : List Bool} (hm : MayB g) (hK : KeptM g R h) (hR : R.length = g.sorts.length) {x y : ProdM} (hx : x ∈ g.prods) (hs : stayP R x = true) (e : bareP y = bareP (movP (sP R) none 0 x)) : samePB g h x y = true := by
  have e1 := moved_left e
  have e2 := moved_right e
  have e3 := moved_role e
  have e4 : y.cons = x.cons := by have := congrArg ProdM.cons e; exact this
  have e5 : y.frm = x.frm := by have := congrArg ProdM.frm e; exact this
  have e6 : y.prefer = x.prefer := by have := congrArg ProdM.prefer e; exact this
  have e7 : y.avoid = x.avoid := by have := congrArg ProdM.avoid e; exact this
  obtain ⟨j, hj, hjn⟩ := hm.left x hx
  have hl := stay_left hs
  have hlj : sP R j = true := by rw [hj] at hl; exact hl
  have hn : nameAt h y.left = nameAt g x.left := by
    rw [e1, hj, Int.toNat_natCast]; exact name_kept hK hlj hjn
  unfold samePB headPB
  rw [hn, e4, e3, e2, e5, e6, e7]
  simp only [List.length_map, beq_self_eq_true, Bool.and_self, Bool.true_and]
  refine eqL_yes (by simp) fun i a b ha hb => ?_
  rw [List.getElem?_map, ha] at hb
  simp only [Option.map_some, Option.some.injEq] at hb
  subst hb
  have ham := List.mem_of_getElem? ha
  unfold symPB
  rw [movS_kind]
  have hset : (movS (sP R) a).set = a.set := by unfold movS; split <;> rfl
  rw [hset]
  simp only [beq_self_eq_true, Bool.true_and]
  cases hk : (a.kind == 1) with
  | false => rfl
  | true =>
    have hk' : a.kind = 1 := by simpa using hk
    obtain ⟨t, ht, htn⟩ := hm.sym x hx a ham hk'
    have hst := stay_sort hs ham hk'
    rw [movS_sort hk', ht, Int.toNat_natCast, name_kept hK (by rw [ht] at hst; exact hst) htn]
    simp

/-- The number of a production turned. -/
def tnum (κ : List Nat) (p : Int) : Int := if 0 ≤ p ∧ p < κ.length then ((κ.getD p.toNat 0 : Nat) : Int) else p
/-- A tree by other productions' numbers. -/
def TurnB (κ : List Nat) : Nat → TreeM → TreeM → Prop
  | 0, _, _ => False
  | d + 1, .node p b _ _ kids, .node p' b' _ _ kids' => p' = tnum κ p ∧ b' = b ∧ kids'.length = kids.length ∧ ∀ (i : Nat) (x y : TreeM), kids[i]? = some x → kids'[i]? = some y → TurnB κ d x y

theorem turn_nest {κ : List Nat} (d : Nat) : ∀ {t t' : TreeM}, TurnB κ d t t' → nestB d t = true → nestB d t' = true := by
  induction d with
  | zero => intro t t' h; exact h.elim
  | succ d ih =>
    rintro ⟨p, b, ka, kc, kids⟩ ⟨p', b', ka', kc', kids'⟩ ⟨_, _, hl, hk⟩ hn
    rw [nestB, List.all_eq_true] at hn ⊢
    intro y hy
    obtain ⟨i, hi⟩ := List.mem_iff_getElem?.1 hy
    have hil : i < kids.length := by rw [← hl]; exact (List.getElem?_eq_some_iff.1 hi).1
    exact ih (hk i _ y (List.getElem?_eq_getElem hil) hi) (hn _ (List.getElem_mem hil))
theorem turn_fit {κ : List Nat} (d : Nat) : ∀ {t t' : TreeM}, TurnB κ d t t' → TFit d t → TFit d t' := by
  induction d with
  | zero => intro t t' h; exact h.elim
  | succ d ih =>
    rintro ⟨p, b, ka, kc, kids⟩ ⟨p', b', ka', kc', kids'⟩ ⟨_, rfl, hl, hk⟩ ⟨h1, h2, h3⟩
    refine ⟨by rw [hl]; exact h1, h2, fun y hy => ?_⟩
    obtain ⟨i, hi⟩ := List.mem_iff_getElem?.1 hy
    have hil : i < kids.length := by rw [← hl]; exact (List.getElem?_eq_some_iff.1 hi).1
    exact ih (hk i _ y (List.getElem?_eq_getElem hil) hi) (h3 _ (List.getElem_mem hil))

/-- What the numbers of the kept productions are. -/
def Match (g h : GramM) (κ : List Nat) : Prop := κ.length = h.prods.length ∧ ∀ (n k : Nat) (q : ProdM), κ[n]? = some k → h.prods[n]? = some q → ∃ x, g.prods[k]? = some x ∧ samePB g h x q = true

theorem zip_all {α β : Type} {p : α × β → Bool} {l : List α} {r : List β} (h : ∀ (i : Nat) (x : α) (y : β), l[i]? = some x → r[i]? = some y → p (x, y) = true) : (l.zip r).all p = true := by
  rw [List.all_eq_true]
  rintro ⟨x, y⟩ hxy
  obtain ⟨i, hi⟩ := List.mem_iff_getElem?.1 hxy
  rw [List.getElem?_zip_eq_some] at hi
  exact h i x y hi.1 hi.2
theorem zip_at {α β : Type} {p : α × β → Bool} {l : List α} {r : List β} (h : (l.zip r).all p = true) (i : Nat) (x : α) (y : β) (hx : l[i]? = some x) (hy : r[i]? = some y) : p (x, y) = true := by
  rw [List.all_eq_true] at h
  exact h (x, y) (List.mem_iff_getElem?.2 ⟨i, by rw [List.getElem?_zip_eq_some]; exact ⟨hx, hy⟩⟩)

theorem turn_tree {g h : GramM} {κ : List Nat} (hcg : checkB g = true) (hmh : MayB h) (hM : Match g h κ) (d : Nat) : ∀ {t t' : TreeM}, TurnB κ d t t' → treeB h d t = true → treeB g d t' = true := by
  have hmg := mayB_of hcg
  have hat : ∀ (m : Nat) (q : ProdM), h.prods[m]? = some q → ∃ (k : Nat) (x : ProdM), tnum κ (m : Int) = (k : Int) ∧ g.prods[k]? = some x ∧ samePB g h x q = true := fun m q hq => by
    have hml : m < h.prods.length := (List.getElem?_eq_some_iff.1 hq).1
    have hmk : m < κ.length := by rw [hM.1]; exact hml
    obtain ⟨x, hx, hs⟩ := hM.2 m _ q (List.getElem?_eq_getElem hmk) hq
    refine ⟨κ[m], x, ?_, hx, hs⟩
    unfold tnum
    rw [if_pos ⟨by omega, by omega⟩, Int.toNat_natCast, List.getD_eq_getElem?_getD, List.getElem?_eq_getElem hmk]; rfl
  induction d with
  | zero => intro t t' h; exact h.elim
  | succ d ih =>
    rintro ⟨p, b, ka, kc, kids⟩ ⟨p', b', ka', kc', kids'⟩ ⟨rfl, rfl, hl, hk⟩ ht
    rw [treeB] at ht
    simp only [Bool.and_eq_true] at ht
    obtain ⟨⟨h1, h2⟩, h3⟩ := ht
    obtain ⟨m, rfl, hm⟩ := numB_nat h1
    rw [Int.toNat_natCast, List.getElem?_eq_getElem hm] at h3
    obtain ⟨k, x, hk1, hx, hs⟩ := hat m _ (List.getElem?_eq_getElem hm)
    generalize hq : h.prods[m] = q at *
    have hqm : q ∈ h.prods := by rw [← hq]; exact List.getElem_mem hm
    have hxm : x ∈ g.prods := List.mem_of_getElem? hx
    have hkl : k < g.prods.length := (List.getElem?_eq_some_iff.1 hx).1
    simp only [Bool.and_eq_true] at h3
    obtain ⟨⟨h4, h5⟩, h6⟩ := h3
    unfold samePB headPB at hs
    simp only [Bool.and_eq_true, beq_iff_eq] at hs
    obtain ⟨⟨s1, s2, s3, s4, s5⟩, s6⟩ := hs
    rw [treeB, hk1, Int.toNat_natCast, hx]
    simp only [Bool.and_eq_true]
    refine ⟨⟨numB_iff.2 ⟨by omega, by omega⟩, h2⟩, ⟨⟨by rw [s3]; exact h4, ?_⟩, zip_all fun i y a hy ha => ?_⟩⟩
    · rw [hl, s4]; exact h5
    · have hil : i < kids.length := by rw [← hl]; exact (List.getElem?_eq_some_iff.1 hy).1
      have hial : i < q.right.length := by rw [← s4]; exact (List.getElem?_eq_some_iff.1 ha).1
      have hT := hk i _ y (List.getElem?_eq_getElem hil) hy
      have hO := zip_at h6 i _ _ (List.getElem?_eq_getElem hil) (List.getElem?_eq_getElem hial)
      have hS := eqL_at s6 i _ _ ha (List.getElem?_eq_getElem hial)
      generalize hc : q.right[i] = c at *
      generalize kids[i] = z at *
      have hcm : c ∈ q.right := by rw [← hc]; exact List.getElem_mem hial
      have ham : a ∈ x.right := List.mem_of_getElem? ha
      unfold symPB at hS
      simp only [Bool.and_eq_true, beq_iff_eq] at hS
      obtain ⟨c1, c2, c3⟩ := hS
      cases d with
      | zero => exact hT.elim
      | succ d =>
      obtain ⟨zp, zb, za, zc, zk⟩ := z
      obtain ⟨yp, yb, ya, yc, yk⟩ := y
      have hTT := hT
      obtain ⟨rfl, rfl, hyl, _⟩ := hT
      unfold ofTB at hO ⊢
      dsimp only at hO ⊢
      rw [c1]
      rw [c1] at c3
      by_cases h0 : c.kind = 0
      · rw [if_pos h0] at hO ⊢
        simp only [Bool.and_eq_true, beq_iff_eq] at hO ⊢
        obtain ⟨⟨o1, o2⟩, o3⟩ := hO
        refine ⟨⟨?_, by rw [hyl]; exact o2⟩, by rw [c2]; exact o3⟩
        subst o1
        unfold tnum
        rw [if_neg (by omega)]
      · rw [if_neg h0] at hO ⊢
        have hk1 : c.kind = 1 := by
          rcases hmh.kind q hqm c hcm with e | e
          · exact absurd e h0
          · exact e
        rw [Bool.and_eq_true] at hO ⊢
        obtain ⟨o1, o2⟩ := hO
        have hz := treeB_num o1
        obtain ⟨mz, hmz, hmzl⟩ := hz
        have hzp : zp = (mz : Int) := hmz
        subst hzp
        rw [Int.toNat_natCast, List.getElem?_eq_getElem hmzl] at o2
        obtain ⟨kz, xz, hkz, hxz, hsz⟩ := hat mz _ (List.getElem?_eq_getElem hmzl)
        refine ⟨ih hTT o1, ?_⟩
        rw [hkz, Int.toNat_natCast, hxz]
        dsimp only at o2 ⊢
        have o2' : (h.prods[mz]).left = c.sort := by simpa using o2
        unfold samePB headPB at hsz
        simp only [Bool.and_eq_true, beq_iff_eq] at hsz
        obtain ⟨⟨n1, _⟩, _⟩ := hsz
        have n2 : nameAt g a.sort = nameAt h c.sort := by
          rw [hk1] at c3; simpa using c3
        have n3 : nameAt g xz.left = nameAt g a.sort := by rw [n1, n2, o2']
        obtain ⟨lx, hlx, hlxn⟩ := hmg.left xz (List.mem_of_getElem? hxz)
        obtain ⟨ta, hta, htan⟩ := hmg.sym x hxm a ham (by rw [c1]; exact hk1)
        rw [hlx, hta] at n3 ⊢
        rw [name_inj hcg hlxn htan n3]
        simp
end Go.Proofs.Ytiihdbchchnncaa
end
