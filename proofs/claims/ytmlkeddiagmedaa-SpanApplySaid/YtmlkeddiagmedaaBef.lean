import Derived.Test.YtmlkeddiagmedaaApply
namespace Go.Proofs.Ytmlkeddiagmedaa

/-- x is made ahead of y, and the two do not meet. -/
def Bef (x y : Ed) : Prop := x.2.1 ≤ y.1 ∧ ¬ (y.1 = x.1 ∧ y.2.1 = x.2.1)

theorem bef_of_sorted (n : Int) : ∀ sd : List Ed, (∀ x ∈ sd, goodEd n x) → ¬ Ovl sd → sd.Pairwise Bef
  | [], _, _ => List.Pairwise.nil
  | [x], _, _ => List.pairwise_singleton _ _
  | x :: y :: r, hg, hv => by
    have hv' : ¬ Ovl (y :: r) := fun ⟨i, a, b, h1, h2, h3⟩ => hv ⟨i + 1, a, b, h1, h2, h3⟩
    have ih := bef_of_sorted n (y :: r) (fun z hz => hg z (List.mem_cons_of_mem _ hz)) hv'
    have hxy : ¬ pairBad x y := fun h => hv ⟨0, x, y, rfl, rfl, h⟩
    have gx := hg x (by simp)
    have gy := hg y (by simp)
    unfold pairBad at hxy
    unfold goodEd at gx gy
    refine List.pairwise_cons.2 ⟨?_, ih⟩
    intro z hz
    rcases List.mem_cons.1 hz with rfl | hz
    · unfold Bef; omega
    · have h1 := (List.pairwise_cons.1 ih).1 z hz
      have gz := hg z (List.mem_cons_of_mem _ (List.mem_cons_of_mem _ hz))
      unfold goodEd at gz
      unfold Bef at h1 ⊢
      omega

def SymBef (x y : Ed) : Prop := Bef x y ∨ Bef y x

theorem symBef_perm {sd d : List Ed} (h : sd.Pairwise Bef) (hp : sd.Perm d) : d.Pairwise SymBef := by
  have h1 : sd.Pairwise SymBef := h.imp fun hb => Or.inl hb
  exact (hp.pairwise_iff fun {x y} (hxy : SymBef x y) => hxy.symm).1 h1

theorem symBef_at {d : List Ed} (h : d.Pairwise SymBef) {i j : Nat} {x y : Ed} (hi : d[i]? = some x) (hj : d[j]? = some y) (hne : i ≠ j) : SymBef x y := by
  obtain ⟨h1, rfl⟩ := List.getElem?_eq_some_iff.1 hi
  obtain ⟨h2, rfl⟩ := List.getElem?_eq_some_iff.1 hj
  rw [List.pairwise_iff_getElem] at h
  rcases Nat.lt_or_gt_of_ne hne with hlt | hgt
  · exact h i j h1 h2 hlt
  · exact (h j i h2 h1 hgt).symm

/-- The greatest of those that do not meet lies behind all others. -/
theorem bef_of_max {n : Int} {x y : Ed} (gx : goodEd n x) (gy : goodEd n y) (h : SymBef x y) (hle : ¬ (y.1 < x.1 ∨ (x.1 = y.1 ∧ y.2.1 < x.2.1))) : Bef x y := by
  rcases h with h | h
  · exact h
  · unfold Bef at h ⊢
    unfold goodEd at gx gy
    omega

theorem sorted_unique {n : Int} {ds sd : List Ed} (hg : ∀ x ∈ sd, goodEd n x) (hp : ds.Perm sd) (h1 : ds.Pairwise Bef) (h2 : sd.Pairwise Bef) : ds = sd := by
  induction ds generalizing sd with
  | nil => exact (List.nil_perm.1 hp).symm
  | cons x r ih =>
    cases sd with
    | nil => exact absurd hp.length_eq (by simp)
    | cons y t =>
      have hxy : x = y := by
        have hx : x ∈ y :: t := hp.mem_iff.1 (by simp)
        have hy : y ∈ x :: r := hp.mem_iff.2 (by simp)
        rcases List.mem_cons.1 hx with h | hx
        · exact h
        · rcases List.mem_cons.1 hy with h | hy
          · exact h.symm
          · have b1 := (List.pairwise_cons.1 h2).1 x hx
            have b2 := (List.pairwise_cons.1 h1).1 y hy
            have g1 := hg x (List.mem_cons_of_mem _ hx)
            have g2 := hg y (by simp)
            unfold Bef at b1 b2
            unfold goodEd at g1 g2
            omega
      subst hxy
      rw [ih (fun z hz => hg z (List.mem_cons_of_mem _ hz)) ((List.perm_cons x).1 hp) (List.pairwise_cons.1 h1).2 (List.pairwise_cons.1 h2).2]

/-- The run of Edits from a place on: what it grows onto l. -/
theorem foldA_app (old : List UInt8) (sd : List Ed) : ∀ (l : List UInt8) (n : Nat), (sd.foldl (stepA old) (l, n)).1 = l ++ (sd.foldl (stepA old) ([], n)).1 ∧ (sd.foldl (stepA old) (l, n)).2 = (sd.foldl (stepA old) ([], n)).2 := by
  induction sd with
  | nil => intro l n; simp
  | cons x r ih =>
    intro l n
    simp only [List.foldl_cons, stepA, List.nil_append]
    obtain ⟨a1, a2⟩ := ih (l ++ (old.take x.1.toNat).drop n ++ x.2.2.data.toList) x.2.1.toNat
    obtain ⟨b1, b2⟩ := ih ((old.take x.1.toNat).drop n ++ x.2.2.data.toList) x.2.1.toNat
    rw [a1, a2, b1, b2]
    simp

/-- What stands from place n on, the Edits made. -/
def fromA (old : List UInt8) (sd : List Ed) (n : Nat) : List UInt8 := let r := sd.foldl (stepA old) ([], n); r.1 ++ old.drop r.2

theorem applyA_from (old : List UInt8) (sd : List Ed) : applyA old sd = fromA old sd 0 := rfl

theorem fromA_cons (old : List UInt8) (x : Ed) (r : List Ed) (n : Nat) : fromA old (x :: r) n = (old.take x.1.toNat).drop n ++ x.2.2.data.toList ++ fromA old r x.2.1.toNat := by
  unfold fromA
  simp only [List.foldl_cons]
  have e : stepA old ([], n) x = ((old.take x.1.toNat).drop n ++ x.2.2.data.toList, x.2.1.toNat) := by simp [stepA]
  rw [e]
  obtain ⟨a1, a2⟩ := foldA_app old r ((old.take x.1.toNat).drop n ++ x.2.2.data.toList) x.2.1.toNat
  rw [a1, a2]
  simp

/-- All Edits lie from place m on: what stands ahead of m is as it was. -/
theorem fromA_split (old : List UInt8) (sd : List Ed) (n m : Nat) (hnm : n ≤ m) (h : ∀ x ∈ sd, (m : Int) ≤ x.1) (hs : sd.Pairwise Bef) (hg : ∀ x ∈ sd, goodEd old.length x) (hm : m ≤ old.length) :
    fromA old sd n = (old.take m).drop n ++ fromA old sd m := by
  cases sd with
  | nil =>
    show [] ++ old.drop n = (old.take m).drop n ++ ([] ++ old.drop m)
    rw [List.nil_append, List.nil_append]
    conv => lhs; rw [← List.take_append_drop m old]
    rw [List.drop_append_of_le_length (by rw [List.length_take]; omega)]
  | cons x r =>
    have hx := h x (by simp)
    have gx := hg x (by simp)
    unfold goodEd at gx
    rw [fromA_cons, fromA_cons]
    have e : (old.take x.1.toNat).drop n = (old.take m).drop n ++ (old.take x.1.toNat).drop m := by
      have e1 : old.take x.1.toNat = old.take m ++ (old.take x.1.toNat).drop m := by
        conv => lhs; rw [← List.take_append_drop m (old.take x.1.toNat)]
        rw [List.take_take, Nat.min_eq_left (by omega)]
      conv => lhs; rw [e1]
      rw [List.drop_append_of_le_length (by rw [List.length_take]; omega)]
    rw [e]
    simp

/-- One Edit more, ahead of those that are made. -/
theorem apply_cons (old : List UInt8) (x : Ed) (r : List Ed) (hs : (x :: r).Pairwise Bef) (hg : ∀ y ∈ x :: r, goodEd old.length y) :
    applyA (applyA old r) [x] = applyA old (x :: r) := by
  have gx := hg x (by simp)
  unfold goodEd at gx
  have hb := (List.pairwise_cons.1 hs).1
  have hall : ∀ y ∈ r, ((x.2.1.toNat : Nat) : Int) ≤ y.1 := fun y hy => by have := (hb y hy).1; omega
  have hu : x.2.1.toNat ≤ old.length := by omega
  have h0 := fromA_split old r 0 x.2.1.toNat (Nat.zero_le _) hall (List.pairwise_cons.1 hs).2 (fun y hy => hg y (List.mem_cons_of_mem _ hy)) hu
  rw [applyA_from, applyA_from, applyA_from, fromA_cons, fromA_cons, List.drop_zero, List.drop_zero, h0, List.drop_zero]
  have hfu : x.1.toNat ≤ x.2.1.toNat := by omega
  have hl : (old.take x.2.1.toNat).length = x.2.1.toNat := by rw [List.length_take]; omega
  congr 1
  · congr 1
    rw [List.take_append_of_le_length (by omega), List.take_take, Nat.min_eq_left hfu]
  · show [] ++ List.drop x.2.1.toNat _ = _
    rw [List.nil_append, List.drop_append_of_le_length (by omega), List.drop_of_length_le (by omega), List.nil_append]

end Go.Proofs.Ytmlkeddiagmedaa
