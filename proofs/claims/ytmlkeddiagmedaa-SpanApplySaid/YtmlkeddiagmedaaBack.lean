import Derived.Test.YtmlkeddiagmedaaUndo
import Derived.Test.YtmlkeddiagmedaaBef
namespace Go.Proofs.Ytmlkeddiagmedaa

/-- From place n on, one behind the other. -/
def Ch (L : Nat) : Nat → List Ed → Prop
  | n, [] => n ≤ L
  | n, x :: r => (n : Int) ≤ x.1 ∧ goodEd L x ∧ Ch L x.2.1.toNat r

theorem ch_of_bef (L : Nat) : ∀ (d : List Ed) (n : Nat), n ≤ L → (∀ x ∈ d, (n : Int) ≤ x.1) → (∀ x ∈ d, goodEd L x) → d.Pairwise Bef → Ch L n d
  | [], n, h, _, _, _ => h
  | x :: r, n, h, h1, h2, h3 => by
    have gx := h2 x (by simp)
    refine ⟨h1 x (by simp), gx, ch_of_bef L r _ ?_ ?_ (fun y hy => h2 y (List.mem_cons_of_mem _ hy)) (List.pairwise_cons.1 h3).2⟩
    · unfold goodEd at gx; omega
    · intro y hy
      have := (List.pairwise_cons.1 h3).1 y hy
      unfold Bef at this; unfold goodEd at gx; omega

/-- Undone, the old text is there again. -/
theorem undo_back (s : ByteArray) : ∀ (J : List Ed) (n : Nat) (sh : Int) (P : List UInt8), Ch s.size n J → (P.length : Int) = n + sh →
    fromA (P ++ fromA s.data.toList J n) (undoA s J sh) P.length = s.data.toList.drop n ∧ ∀ a ∈ undoA s J sh, goodEd (P ++ fromA s.data.toList J n).length a
  | [], n, sh, P, h, hp => by
    refine ⟨?_, by simp [undoA]⟩
    show [] ++ List.drop P.length (P ++ ([] ++ s.data.toList.drop n)) = _
    simp
  | x :: r, n, sh, P, h, hp => by
    obtain ⟨h1, h2, h3⟩ := h
    unfold goodEd at h2
    have hL : s.data.toList.length = s.size := by simp
    obtain ⟨f, hf⟩ := Int.eq_ofNat_of_zero_le (a := x.1) (by omega)
    obtain ⟨u, hu⟩ := Int.eq_ofNat_of_zero_le (a := x.2.1) (by omega)
    have e1 : x.1.toNat = f := by omega
    have e2 : x.2.1.toNat = u := by omega
    have hT : x.2.2.data.toList.length = x.2.2.size := by simp
    have hK : ((s.data.toList.take f).drop n).length = f - n := by rw [List.length_drop, List.length_take]; omega
    have hP' : (P ++ (s.data.toList.take f).drop n ++ x.2.2.data.toList).length = P.length + (f - n) + x.2.2.size := by
      rw [List.length_append, List.length_append, hK, hT]
    have ih := undo_back s r u (sh + growI x) (P ++ (s.data.toList.take f).drop n ++ x.2.2.data.toList) (by rw [← e2]; exact h3) (by rw [hP']; unfold growI; omega)
    rw [fromA_cons, e1, e2]
    have eN : P ++ ((s.data.toList.take f).drop n ++ x.2.2.data.toList ++ fromA s.data.toList r u) = P ++ (s.data.toList.take f).drop n ++ x.2.2.data.toList ++ fromA s.data.toList r u := by simp
    rw [eN]
    generalize hN : P ++ (s.data.toList.take f).drop n ++ x.2.2.data.toList ++ fromA s.data.toList r u = N at *
    have hNl : P.length + (f - n) + x.2.2.size ≤ N.length := by rw [← hN, List.length_append, hP']; omega
    show fromA N ((x.1 + sh, x.1 + sh + x.2.2.size, s.extract x.1.toNat x.2.1.toNat) :: undoA s r (sh + growI x)) P.length = _ ∧ _
    refine ⟨?_, ?_⟩
    · rw [fromA_cons]
      have a1 : (x.1 + sh).toNat = P.length + (f - n) := by omega
      have a2 : (x.1 + sh + x.2.2.size).toNat = P.length + (f - n) + x.2.2.size := by omega
      dsimp only
      rw [a1, a2, ← hP', ih.1, e1, e2]
      have b1 : (N.take (P.length + (f - n))).drop P.length = (s.data.toList.take f).drop n := by
        rw [← hN, List.append_assoc (P ++ _), List.take_append_of_le_length (by rw [List.length_append, hK]; omega), List.take_of_length_le (by rw [List.length_append, hK]; omega)]
        simp
      have b2 : (s.extract f u).data.toList = (s.data.toList.take u).drop f := by
        rw [ByteArray.data_extract, Array.toList_extract, List.extract_eq_take_drop, List.drop_take]
      rw [b1, b2]
      have c1 : (s.data.toList.take u).drop f ++ s.data.toList.drop u = s.data.toList.drop f := by
        conv => rhs; rw [← List.take_append_drop u s.data.toList]
        rw [List.drop_append_of_le_length (by rw [List.length_take]; omega)]
      rw [List.append_assoc, c1]
      conv => rhs; rw [← List.take_append_drop f s.data.toList]
      rw [List.drop_append_of_le_length (by rw [List.length_take]; omega)]
    · intro a ha
      rcases List.mem_cons.1 ha with rfl | ha
      · unfold goodEd; dsimp only; omega
      · exact ih.2 a ha

theorem ovl_cons {a b : Ed} {r : List Ed} (h : ¬ pairBad a b) (hr : ¬ Ovl (b :: r)) : ¬ Ovl (a :: b :: r) := by
  rintro ⟨i, x, y, hx, hy, hb⟩
  cases i with
  | zero => simp at hx hy; subst hx hy; exact h hb
  | succ i => exact hr ⟨i, x, y, by simpa using hx, by simpa using hy, hb⟩

def Lnk (J : List Ed) : Prop := ∀ A x y C, J = A ++ x :: y :: C → Bef x y ∧ ¬ touches x y

theorem Lnk.tail {x : Ed} {r : List Ed} (h : Lnk (x :: r)) : Lnk r := fun A a b C e => h (x :: A) a b C (by rw [e]; rfl)

theorem undo_ovl (s : ByteArray) (n : Int) : ∀ (J : List Ed) (sh : Int), Lnk J → (∀ x ∈ J, goodEd n x) → ¬ Ovl (undoA s J sh)
  | [], sh, _, _ => by rintro ⟨i, x, y, hx, _⟩; simp [undoA] at hx
  | [x], sh, _, _ => by rintro ⟨i, a, b, ha, hb, _⟩; simp [undoA] at hb
  | x :: y :: r, sh, hl, hg => by
    have ih := undo_ovl s n (y :: r) (sh + growI x) hl.tail (fun z hz => hg z (List.mem_cons_of_mem _ hz))
    refine ovl_cons ?_ ih
    obtain ⟨hb, ht⟩ := hl [] x y r rfl
    have gx := hg x (by simp)
    have gy := hg y (by simp)
    have e : ¬ (x.2.2.size = 0 ∧ y.2.2.size = 0 ∧ x.2.1 = y.1) := by
      rintro ⟨e1, e2, e3⟩
      refine ht ⟨?_, ?_, e3⟩
      · exact ByteArray.ext (Array.eq_empty_of_size_eq_zero e2)
      · exact ByteArray.ext (Array.eq_empty_of_size_eq_zero e1)
    unfold pairBad growI
    unfold Bef at hb
    unfold goodEd at gx gy
    dsimp only
    omega

theorem runA_join (old : List UInt8) (d : List Ed) : runA old (joinA d) = runA old d := by
  have key : ∀ k, k ≤ d.length → runA old (joinA (d.take k)) = runA old (d.take k) := by
    intro k
    induction k with
    | zero => intro _; simp [joinA]
    | succ k ih =>
      intro hk
      have ih := ih (by omega)
      rw [take_snoc d k d[k] (by simp [show k < d.length by omega]), joinA_snoc, runA_snoc]
      generalize d[k] = x at *
      rcases List.eq_nil_or_concat (joinA (d.take k)) with hJ | ⟨J0, y, hJ⟩
      · rw [hJ] at ih ⊢
        rw [joinStep_nil, ← ih]
        rfl
      · rw [List.concat_eq_append] at hJ
        rw [hJ] at ih ⊢
        by_cases ht : touches y x
        · rw [joinStep_hit _ _ _ ht, runA_snoc, ← ih, runA_snoc]
          obtain ⟨t1, t2, t3⟩ := ht
          unfold stepA
          dsimp only
          have e : (old.take x.1.toNat).drop y.2.1.toNat = [] := by
            rw [t3]; apply List.drop_of_length_le; rw [List.length_take]; omega
          rw [t1, t2, e]
          simp
        · rw [joinStep_miss _ _ _ ht, runA_snoc, ih]
  have := key d.length (Nat.le_refl _)
  rwa [List.take_length] at this

theorem applyA_join (old : List UInt8) (d : List Ed) : applyA old (joinA d) = applyA old d := by
  unfold applyA; rw [runA_join]

theorem lnk_snoc {J : List Ed} {y x : Ed} (h : Lnk (J ++ [y])) (hb : Bef y x) (ht : ¬ touches y x) : Lnk (J ++ [y] ++ [x]) := by
  intro A a b C e
  rcases List.eq_nil_or_concat C with rfl | ⟨C0, c, rfl⟩
  · have e1 : J ++ [y] ++ [x] = (A ++ [a]) ++ [b] := by rw [e]; simp
    obtain ⟨e2, e3⟩ := List.append_inj' e1 rfl
    obtain ⟨_, e4⟩ := List.append_inj' e2 rfl
    simp at e3 e4
    subst e3 e4
    exact ⟨hb, ht⟩
  · rw [List.concat_eq_append] at e
    have e1 : J ++ [y] ++ [x] = (A ++ a :: b :: C0) ++ [c] := by rw [e]; simp
    obtain ⟨e2, _⟩ := List.append_inj' e1 rfl
    exact h A a b C0 e2

theorem lnk_last {J : List Ed} {y z : Ed} (h : Lnk (J ++ [y])) (hR : ∀ a, Bef a y → ¬ touches a y → a ∈ J → Bef a z ∧ ¬ touches a z) : Lnk (J ++ [z]) := by
  intro A a b C e
  rcases List.eq_nil_or_concat C with rfl | ⟨C0, c, rfl⟩
  · have e1 : J ++ [z] = (A ++ [a]) ++ [b] := by rw [e]; simp
    obtain ⟨e2, e3⟩ := List.append_inj' e1 rfl
    simp at e3
    subst e3
    have := h A a y [] (by rw [e2]; simp)
    exact hR a this.1 this.2 (by rw [e2]; simp)
  · rw [List.concat_eq_append] at e
    have e1 : J ++ [z] = (A ++ a :: b :: C0) ++ [c] := by rw [e]; simp
    obtain ⟨e2, _⟩ := List.append_inj' e1 rfl
    exact h A a b (C0 ++ [y]) (by rw [e2]; simp)

theorem lnk_join (n : Int) (d : List Ed) (hb : d.Pairwise Bef) (hg : ∀ x ∈ d, goodEd n x) : Lnk (joinA d) := by
  have hgj : ∀ k, ∀ x ∈ joinA (d.take k), goodEd n x := fun k => (joinA_mem (goodEd n) (by
    rintro y x ⟨_, _, ht⟩ gy gx
    unfold goodEd at *
    dsimp only
    omega) _ (take_mem hg))
  have key : ∀ k, k ≤ d.length → Lnk (joinA (d.take k)) ∧ ∀ J0 z, joinA (d.take k) = J0 ++ [z] → ∃ j y, j + 1 = k ∧ d[j]? = some y ∧ z.2.1 = y.2.1 ∧ z.1 ≤ y.1 := by
    intro k
    induction k with
    | zero => intro _; exact ⟨fun A x y C e => by simp [joinA] at e, fun J0 z e => by simp [joinA] at e⟩
    | succ k ih =>
      intro hk
      obtain ⟨ih1, ih2⟩ := ih (by omega)
      have hx : d[k]? = some d[k] := by simp [show k < d.length by omega]
      have gx := hg _ (List.mem_of_getElem? hx)
      have hgk := hgj k
      rw [take_snoc d k _ hx, joinA_snoc]
      generalize d[k] = x at *
      rcases List.eq_nil_or_concat (joinA (d.take k)) with hJ | ⟨J0, z, hJ⟩
      · rw [hJ, joinStep_nil]
        refine ⟨fun A a b C e => ?_, fun J1 z1 e => ⟨k, x, rfl, hx, ?_⟩⟩
        · have := congrArg List.length e; simp at this; omega
        · have e1 : ([] : List Ed) ++ [x] = J1 ++ [z1] := e
          obtain ⟨_, e2⟩ := List.append_inj' e1 rfl
          simp at e2; subst e2; exact ⟨rfl, Int.le_refl _⟩
      · rw [List.concat_eq_append] at hJ
        obtain ⟨j, y, hjk, hy, hz1, hz2⟩ := ih2 J0 z hJ
        rw [hJ] at ih1 hgk
        rw [hJ]
        have gz := hgk z (by simp)
        have gy := hg _ (List.mem_of_getElem? hy)
        have hyx : Bef y x := by
          obtain ⟨q1, rfl⟩ := List.getElem?_eq_some_iff.1 hy
          obtain ⟨q2, rfl⟩ := List.getElem?_eq_some_iff.1 hx
          rw [List.pairwise_iff_getElem] at hb
          exact hb j k q1 q2 (by omega)
        unfold Bef at hyx
        unfold goodEd at gx gy gz
        by_cases ht : touches z x
        · rw [joinStep_hit _ _ _ ht]
          refine ⟨lnk_last ih1 ?_, fun J1 z1 e => ⟨k, x, rfl, hx, ?_⟩⟩
          · intro a ha1 ha2 ha3
            have ga := hgk a (by simp [ha3])
            unfold goodEd at ga
            obtain ⟨t1, t2, t3⟩ := ht
            refine ⟨?_, fun h => ha2 h⟩
            unfold Bef at ha1 ⊢
            dsimp only
            omega
          · obtain ⟨_, e2⟩ := List.append_inj' e rfl
            simp at e2; subst e2
            exact ⟨rfl, by dsimp only; omega⟩
        · rw [joinStep_miss _ _ _ ht]
          refine ⟨lnk_snoc ih1 ?_ ht, fun J1 z1 e => ⟨k, x, rfl, hx, ?_⟩⟩
          · unfold Bef; omega
          · obtain ⟨_, e2⟩ := List.append_inj' e rfl
            simp at e2; subst e2
            exact ⟨rfl, Int.le_refl _⟩
  have := (key d.length (Nat.le_refl _)).1
  rwa [List.take_length] at this

end Go.Proofs.Ytmlkeddiagmedaa
