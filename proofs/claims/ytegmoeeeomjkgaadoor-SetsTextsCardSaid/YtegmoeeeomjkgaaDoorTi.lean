import Derived.Test.YtegmoeeeomjkgaaDoorTb
namespace Go.Proofs.YtegmoeeeomjkgaaDoor
open Go Go.RowKit

theorem pre1_cons (c x : UInt8) (t : List UInt8) : Lib.hasPrefix (c :: t) [x] = (c == x) := by
  show ((x == c) && true) = (c == x)
  rw [Bool.and_true, Bool.eq_iff_iff, beq_iff_eq, beq_iff_eq]
  exact eq_comm
theorem pre1_nil (x : UInt8) : Lib.hasPrefix [] [x] = false := rfl

theorem items_fuel : ∀ (n : Nat) (l : List UInt8), l.length ≤ n → ∀ f u, l.length + 1 ≤ f → readItems f u l = readItems (l.length + 1) u l := by
  intro n
  induction n with
  | zero =>
    intro l hl f u hf
    have : l = [] := List.length_eq_zero_iff.1 (by omega)
    subst this
    obtain ⟨g, rfl⟩ : ∃ g, f = g + 1 := ⟨f - 1, by simp at hf; omega⟩
    rfl
  | succ n ih =>
    intro l hl f u hf
    obtain ⟨g, rfl⟩ : ∃ g, f = g + 1 := ⟨f - 1, by omega⟩
    unfold readItems
    split
    · rfl
    · split
      · rfl
      · rename_i h1 h2
        have hk := (itemB_lt l).2.2
        have hd : (l.drop (itemB l).2).length + 1 ≤ l.length := by rw [List.length_drop]; omega
        rw [ih (l.drop (itemB l).2) (by omega) g _ (by omega), ih (l.drop (itemB l).2) (by omega) l.length _ hd]

theorem items_step (l : List UInt8) (u : BS) (h93 : l ≠ [93]) (hk : (itemB l).2 ≠ 0) : readItems (l.length + 1) u l = readItems ((l.drop (itemB l).2).length + 1) (addR u (itemB l).1) (l.drop (itemB l).2) := by
  have h1 := (itemB_lt l).2.2
  have hd : (l.drop (itemB l).2).length + 1 ≤ l.length := by rw [List.length_drop]; omega
  conv => lhs; unfold readItems
  rw [if_neg h93, if_neg hk]
  exact items_fuel _ _ (Nat.le_refl _) _ _ hd
theorem items_bad (l : List UInt8) (u : BS) (h93 : l ≠ [93]) (hk : (itemB l).2 = 0) : readItems (l.length + 1) u l = none := by
  unfold readItems
  rw [if_neg h93, if_pos hk]
theorem items_end (u : BS) : readItems (([93] : List UInt8).length + 1) u [93] = some u := by
  unfold readItems; simp

theorem item_none (l : List UInt8) (h : (byteB l).2 = 0) : (itemB l).2 = 0 := by
  unfold itemB; rw [if_pos (.inl h)]; exact h
theorem item_one (l : List UInt8) (h : (byteB l).2 ≠ 0) (hp : Lib.hasPrefix (l.drop (byteB l).2) [45] = false) : itemB l = (((byteB l).1, (byteB l).1), (byteB l).2) := by
  unfold itemB; rw [if_pos (.inr hp)]
theorem item_wrong (l : List UInt8) (h : (byteB l).2 ≠ 0) (hp : Lib.hasPrefix (l.drop (byteB l).2) [45] = true) (hw : (byteB (l.drop ((byteB l).2 + 1))).2 = 0 ∨ (byteB (l.drop ((byteB l).2 + 1))).1 < (byteB l).1) : (itemB l).2 = 0 := by
  unfold itemB; rw [if_neg (by simp [h, hp]), if_pos hw]
theorem item_two (l : List UInt8) (h : (byteB l).2 ≠ 0) (hp : Lib.hasPrefix (l.drop (byteB l).2) [45] = true) (h1 : (byteB (l.drop ((byteB l).2 + 1))).2 ≠ 0) (h2 : ¬ (byteB (l.drop ((byteB l).2 + 1))).1 < (byteB l).1) :
    itemB l = (((byteB l).1, (byteB (l.drop ((byteB l).2 + 1))).1), (byteB l).2 + 1 + (byteB (l.drop ((byteB l).2 + 1))).2) := by
  unfold itemB; rw [if_neg (by simp [h, hp]), if_neg (by simp [h1, h2])]

theorem byteB_93 (t : List UInt8) : byteB (93 :: t) = (0, 0) := by
  have hs : signB 93 = true := by decide
  simp [byteB, hs]

/-- What the rest of a text says, behind its head. -/
def restS (neg : Bool) (o : Option BS) : Option BS := if neg then o.map (fun s => ~~~s) else o

theorem readS_short (l : List UInt8) (h : l.length < 2) : readS l = none := by
  unfold readS
  match l, h with
  | [], _ => rfl
  | [c], _ =>
    rw [pre1_cons]
    by_cases hc : c = 91
    · subst hc; decide
    · simp [hc]
theorem readS_head (l : List UInt8) (c : UInt8) (t : List UInt8) (e : l = c :: t) (h : c ≠ 91) : readS l = none := by
  unfold readS
  rw [e, pre1_cons]
  simp [h]
theorem readS_rest (l : List UInt8) (d : UInt8) (t : List UInt8) (e : l = 91 :: d :: t) :
    readS l = restS (d == 94) (readItems ((l.drop (if d = 94 then 2 else 1)).length + 1) 0#256 (l.drop (if d = 94 then 2 else 1))) := by
  subst e
  unfold readS
  rw [pre1_cons]
  have ht : Lib.trimPrefix (91 :: d :: t) [91] = d :: t := by unfold Lib.trimPrefix; rw [pre1_cons]; simp
  rw [ht, pre1_cons]
  by_cases hd : d = 94
  · subst hd
    have ht2 : Lib.trimPrefix (94 :: t) [94] = t := by unfold Lib.trimPrefix; rw [pre1_cons]; simp
    rw [ht2]
    simp [restS]
  · simp [restS, hd]
end Go.Proofs.YtegmoeeeomjkgaaDoor
