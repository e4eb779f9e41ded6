import Derived.Test.YtmlkeddiagmedaaBack2
namespace Go.Proofs.Ytmlkeddiagmedaa

def isIns (i : Nat) (x : Ed) : Bool := x.1 == (i : Int) && x.2.1 == (i : Int)
def isLas (i : Nat) (x : Ed) : Bool := x.1 == (i : Int) && decide ((i : Int) < x.2.1)
def isCut (i : Nat) (x : Ed) : Bool := decide (x.1 ≤ (i : Int)) && decide ((i : Int) < x.2.1)
def txts (l : List Ed) : List UInt8 := l.flatMap (fun x => x.2.2.data.toList)
def insA (i : Nat) (l : List Ed) : List UInt8 := txts (l.filter (isIns i))
def lasA (i : Nat) (l : List Ed) : List UInt8 := txts (l.filter (isLas i))
def cutA (i : Nat) (l : List Ed) : Bool := l.any (isCut i)
def byteA (old : List UInt8) (i : Nat) (c : Bool) : List UInt8 := if i < old.length ∧ c = false then (old.drop i).take 1 else []
def posA (old : List UInt8) (l : List Ed) (i : Nat) : List UInt8 := insA i l ++ lasA i l ++ byteA old i (cutA i l)
def wantA (old : List UInt8) (l : List Ed) (n : Nat) : List UInt8 := (List.range n).flatMap (posA old l)

theorem txts_snoc (l : List Ed) (x : Ed) : txts (l ++ [x]) = txts l ++ x.2.2.data.toList := by simp [txts]
theorem wantA_succ (old : List UInt8) (l : List Ed) (n : Nat) : wantA old l (n + 1) = wantA old l n ++ posA old l n := by
  unfold wantA
  rw [List.range_succ, List.flatMap_append]
  simp

theorem ins_snoc (i : Nat) (l : List Ed) (x : Ed) : insA i (l ++ [x]) = insA i l ++ (if isIns i x then x.2.2.data.toList else []) := by
  unfold insA
  rw [List.filter_append]
  by_cases h : isIns i x <;> simp [h, txts]
theorem las_snoc (i : Nat) (l : List Ed) (x : Ed) : lasA i (l ++ [x]) = lasA i l ++ (if isLas i x then x.2.2.data.toList else []) := by
  unfold lasA
  rw [List.filter_append]
  by_cases h : isLas i x <;> simp [h, txts]
theorem cut_snoc (i : Nat) (l : List Ed) (x : Ed) : cutA i (l ++ [x]) = (cutA i l || isCut i x) := by
  unfold cutA
  rw [List.any_append]
  simp
theorem ba_app (a b : ByteArray) : (a ++ b).data.toList = a.data.toList ++ b.data.toList := by simp

/-- At most one of them: the order does not matter. -/
theorem txts_perm {l d : List Ed} {p : Ed → Bool} (hp : l.Perm d) (h1 : (l.filter p).length ≤ 1) : txts (l.filter p) = txts (d.filter p) := by
  have h := hp.filter p
  match hl : l.filter p, h1 with
  | [], _ =>
    rw [hl] at h
    rw [List.nil_perm.1 h]
  | [x], _ =>
    rw [hl] at h
    rw [List.singleton_perm.1 h]

theorem filter_one {R : Ed → Ed → Prop} {l : List Ed} {p : Ed → Bool} (h : l.Pairwise R) (hn : ∀ x y, p x = true → p y = true → ¬ R x y) : (l.filter p).length ≤ 1 := by
  have h2 := h.sublist (List.filter_sublist (p := p))
  match hl : l.filter p with
  | [] => simp
  | [x] => simp
  | x :: y :: r =>
    rw [hl] at h2
    have hr := (List.pairwise_cons.1 h2).1 y (by simp)
    have hx : x ∈ l.filter p := by rw [hl]; simp
    have hy : y ∈ l.filter p := by rw [hl]; simp
    exact absurd hr (hn x y (List.mem_filter.1 hx).2 (List.mem_filter.1 hy).2)

theorem posA_perm (old : List UInt8) {l sd : List Ed} (hp : sd.Perm l) (hs : sd.Pairwise Bef) (i : Nat) : posA old l i = posA old sd i := by
  have e1 : insA i l = insA i sd := (txts_perm hp (filter_one hs (by
    intro x y hx hy h
    simp [isIns] at hx hy
    unfold Bef at h; omega))).symm
  have e2 : lasA i l = lasA i sd := (txts_perm hp (filter_one hs (by
    intro x y hx hy h
    simp [isLas] at hx hy
    unfold Bef at h; omega))).symm
  have e3 : cutA i l = cutA i sd := by
    unfold cutA
    rw [Bool.eq_iff_iff, List.any_eq_true, List.any_eq_true]
    constructor
    · rintro ⟨x, hx, h⟩; exact ⟨x, hp.mem_iff.2 hx, h⟩
    · rintro ⟨x, hx, h⟩; exact ⟨x, hp.mem_iff.1 hx, h⟩
  unfold posA
  rw [e1, e2, e3]

def seg (p : Nat → List UInt8) (m k : Nat) : List UInt8 := (List.range' m k).flatMap p
theorem seg_add (p : Nat → List UInt8) (m a b : Nat) : seg p m (a + b) = seg p m a ++ seg p (m + a) b := by
  unfold seg
  rw [← List.range'_append_1, List.flatMap_append]
theorem seg_congr {p q : Nat → List UInt8} {m k : Nat} (h : ∀ i, m ≤ i → i < m + k → p i = q i) : seg p m k = seg q m k := by
  unfold seg
  induction k generalizing m with
  | zero => rfl
  | succ k ih =>
    rw [List.range'_succ, List.flatMap_cons, List.flatMap_cons, h m (Nat.le_refl _) (by omega), ih (fun i h1 h2 => h i (by omega) (by omega))]
theorem seg_nil {p : Nat → List UInt8} {m k : Nat} (h : ∀ i, m ≤ i → i < m + k → p i = []) : seg p m k = [] := by
  rw [seg_congr (q := fun _ => []) h]
  simp [seg]
theorem seg_bytes (old : List UInt8) (m k : Nat) (h : m + k ≤ old.length) : seg (fun i => (old.drop i).take 1) m k = (old.take (m + k)).drop m := by
  induction k generalizing m with
  | zero =>
    rw [List.drop_of_length_le (by rw [List.length_take]; omega)]
    simp [seg]
  | succ k ih =>
    unfold seg at ih ⊢
    rw [List.range'_succ, List.flatMap_cons, ih (m + 1) (by omega)]
    rw [show m + 1 + k = m + (k + 1) by omega]
    have hm : m < (old.take (m + (k + 1))).length := by rw [List.length_take]; omega
    conv => rhs; rw [List.drop_eq_getElem_cons hm]
    have e : (old.drop m).take 1 = [old[m]] := by rw [List.drop_eq_getElem_cons (show m < old.length by omega)]; rfl
    rw [e]
    simp

theorem far_none (i : Nat) (r : List Ed) (h : ∀ x ∈ r, (i : Int) < x.1) : insA i r = [] ∧ lasA i r = [] ∧ cutA i r = false := by
  have a : r.filter (isIns i) = [] := by
    rw [List.filter_eq_nil_iff]; intro x hx; have := h x hx; simp [isIns]; omega
  have b : r.filter (isLas i) = [] := by
    rw [List.filter_eq_nil_iff]; intro x hx; have := h x hx; simp [isLas]; omega
  refine ⟨by unfold insA; rw [a]; rfl, by unfold lasA; rw [b]; rfl, ?_⟩
  unfold cutA
  rw [List.any_eq_false]
  intro x hx; have := h x hx; simp [isCut]; omega

theorem posA_skip (old : List UInt8) (x : Ed) (r : List Ed) (i : Nat) (h1 : x.1 ≠ (i : Int)) (h2 : ¬ (x.1 ≤ (i : Int) ∧ (i : Int) < x.2.1)) : posA old (x :: r) i = posA old r i := by
  have i1 : isIns i x = false := by simp [isIns]; omega
  have i2 : isLas i x = false := by simp [isLas]; omega
  have i3 : isCut i x = false := by simp [isCut]; omega
  simp [posA, insA, lasA, cutA, i1, i2, i3]

/-- Place by place: the Edits made. -/
theorem seg_from (old : List UInt8) : ∀ (d : List Ed) (n : Nat), n ≤ old.length → (∀ x ∈ d, (n : Int) ≤ x.1) → (∀ x ∈ d, goodEd old.length x) → d.Pairwise Bef → seg (posA old d) n (old.length + 1 - n) = fromA old d n
  | [], n, hn, _, _, _ => by
    show _ = [] ++ old.drop n
    rw [show old.length + 1 - n = (old.length - n) + 1 by omega, seg_add]
    rw [seg_congr (q := fun i => (old.drop i).take 1) (by
      intro i h1 h2
      have : i < old.length := by omega
      simp [posA, insA, lasA, cutA, byteA, txts, this]), seg_bytes old n _ (by omega)]
    rw [List.take_of_length_le (by omega)]
    rw [seg_nil (by
      intro i h1 h2
      have : ¬ i < old.length := by omega
      simp [posA, insA, lasA, cutA, byteA, txts, this])]
    simp
  | x :: r, n, hn, h1, h2, h3 => by
    have gx := h2 x (by simp)
    have hx1 := h1 x (by simp)
    unfold goodEd at gx
    obtain ⟨f, hf⟩ := Int.eq_ofNat_of_zero_le (a := x.1) (by omega)
    obtain ⟨u, hu⟩ := Int.eq_ofNat_of_zero_le (a := x.2.1) (by omega)
    have e1 : x.1.toNat = f := by omega
    have e2 : x.2.1.toNat = u := by omega
    have hb := (List.pairwise_cons.1 h3).1
    have hr : ∀ y ∈ r, (u : Int) ≤ y.1 := fun y hy => by have := hb y hy; unfold Bef at this; omega
    have ih := seg_from old r u (by omega) hr (fun y hy => h2 y (List.mem_cons_of_mem _ hy)) (List.pairwise_cons.1 h3).2
    rw [fromA_cons, e1, e2]
    have s1 : seg (posA old (x :: r)) n (f - n) = (old.take f).drop n := by
      rw [seg_congr (q := fun i => (old.drop i).take 1) (by
        intro i g1 g2
        obtain ⟨a1, a2, a3⟩ := far_none i (x :: r) (by
          intro y hy
          rcases List.mem_cons.1 hy with rfl | hy
          · omega
          · have := hr y hy; omega)
        have : i < old.length := by omega
        simp [posA, a1, a2, a3, byteA, this]), seg_bytes old n _ (by omega)]
      rw [show n + (f - n) = f by omega]
    rw [show old.length + 1 - n = (f - n) + (old.length + 1 - f) by omega, seg_add, s1, show n + (f - n) = f by omega, List.append_assoc]
    congr 1
    by_cases hfu : f = u
    · subst hfu
      rw [show old.length + 1 - f = 1 + (old.length - f) by omega] at ih ⊢
      rw [seg_add] at ih ⊢
      rw [seg_congr (p := posA old (x :: r)) (q := posA old r) (m := f + 1) (fun i g1 g2 => posA_skip old x r i (by omega) (by omega))]
      rw [← ih, ← List.append_assoc]
      congr 1
      show posA old (x :: r) f ++ [] = x.2.2.data.toList ++ (posA old r f ++ [])
      have i1 : isIns f x = true := by simp [isIns]; omega
      have i2 : isLas f x = false := by simp [isLas]; omega
      have i3 : isCut f x = false := by simp [isCut]; omega
      simp [posA, insA, lasA, cutA, i1, i2, i3, txts]
    · rw [show old.length + 1 - f = 1 + (u - f - 1) + (old.length + 1 - u) by omega, seg_add, seg_add]
      rw [show f + (1 + (u - f - 1)) = u by omega]
      rw [seg_congr (p := posA old (x :: r)) (q := posA old r) (m := u) (fun i g1 g2 => posA_skip old x r i (by omega) (by omega)), ih]
      congr 1
      rw [seg_nil (m := f + 1) (by
        intro i g1 g2
        obtain ⟨a1, a2, a3⟩ := far_none i r (by intro y hy; have := hr y hy; omega)
        have i1 : isIns i x = false := by simp [isIns]; omega
        have i2 : isLas i x = false := by simp [isLas]; omega
        have i3 : isCut i x = true := by simp [isCut]; omega
        unfold insA at a1
        unfold lasA at a2
        simp [posA, insA, lasA, cutA, byteA, i1, i2, i3, a1, a2])]
      obtain ⟨a1, a2, a3⟩ := far_none f r (by intro y hy; have := hr y hy; omega)
      have i1 : isIns f x = false := by simp [isIns]; omega
      have i2 : isLas f x = true := by simp [isLas]; omega
      have i3 : isCut f x = true := by simp [isCut]; omega
      show (posA old (x :: r) f ++ []) ++ [] = _
      unfold insA at a1
      unfold lasA at a2
      have a4 : txts (x :: r.filter (isLas f)) = x.2.2.data.toList ++ txts (r.filter (isLas f)) := by simp [txts]
      simp [posA, insA, lasA, cutA, byteA, i1, i2, i3, a1, a4, a2]

theorem want_apply (old : List UInt8) {l sd : List Ed} (hp : sd.Perm l) (hs : sd.Pairwise Bef) (hg : ∀ x ∈ sd, goodEd old.length x) : wantA old l (old.length + 1) = applyA old sd := by
  have h := seg_from old sd 0 (Nat.zero_le _) (fun x hx => by have := hg x hx; unfold goodEd at this; omega) hg hs
  rw [applyA_from, ← h]
  unfold wantA
  rw [List.range_eq_range']
  exact seg_congr (fun i _ _ => posA_perm old hp hs i)

end Go.Proofs.Ytmlkeddiagmedaa
