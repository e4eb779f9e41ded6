import Derived.Test.YtdodkbpagbblmaaDoorQ19
namespace Go.Proofs.YtdodkbpagbblmaaDoor
open Go Go.RowKit

/-- What a word has, and nothing else. -/
def bareW (x : Wd) : Wd :=
  if x.kind = 1 ∨ x.kind = 2 ∨ x.kind = 5 then ⟨x.kind, x.txt, 0#256, 0⟩ else if x.kind = 3 then ⟨x.kind, ⟨#[]⟩, x.set, 0⟩ else if x.kind = 4 then ⟨x.kind, ⟨#[]⟩, 0#256, x.num⟩ else ⟨x.kind, ⟨#[]⟩, 0#256, 0⟩
def signT : List UInt8 → Bool
  | [c] => sgnB c.toNat
  | _ => false
/-- Is what a word has as it must be? -/
def okW (x : Wd) : Bool :=
  if x.kind = 1 then nameB x.txt.data.toList else if x.kind = 2 then true else if x.kind = 3 then true else if x.kind = 4 then decide (0 ≤ x.num ∧ x.num ≤ 999999999) else if x.kind = 5 then signT x.txt.data.toList else false
def mayB (x : Wd) : Bool := okW x && sameW x (bareW x)

theorem eq_bare (x y : Wd) (a : Int) (w : World) : (Op.equalIn 10000 38 (.agg (wordC x a)) (.agg (wordC y a))).run Tryd.prog w = .ok (sameW x y) w := by
  have h := eq_wds 9996 x y a a w
  have e : (x.kind == y.kind && (a == a && (x.txt.toList == y.txt.toList && (x.set == y.set && x.num == y.num)))) = sameW x y := by unfold sameW; simp
  rw [e] at h
  exact h

set_option maxRecDepth 100000 in
set_option maxHeartbeats 4000000 in
theorem mayBe_any (x : Wd) (a : Int) (hx : x.txt.size ≤ 140737488351232) (w : World) : Calls Tryd.prog 15 #[wordV x a] w fun e w' => e = .returned (.bool (mayB x)) ∧ Below w.heap.size w w' := by
  obtain ⟨kd, tx, st, nm⟩ := x
  dsimp only at hx
  have key : ∀ r, mayB ⟨kd, tx, st, nm⟩ = r → (Calls Tryd.prog 15 #[wordV ⟨kd, tx, st, nm⟩ a] w fun e w' => e = .returned (.bool r) ∧ Below w.heap.size w w') → Calls Tryd.prog 15 #[wordV ⟨kd, tx, st, nm⟩ a] w fun e w' => e = .returned (.bool (mayB ⟨kd, tx, st, nm⟩)) ∧ Below w.heap.size w w' := fun r h k => by rw [h]; exact k
  have HE : ∀ y : Wd, Hid (∀ w', (Op.equalIn 10000 38 (.agg (wordC ⟨kd, tx, st, nm⟩ a)) (.agg (wordC y a))).run Tryd.prog w' = .ok (sameW ⟨kd, tx, st, nm⟩ y) w') := fun y => Lib.hid fun w' => eq_bare ⟨kd, tx, st, nm⟩ y a w'
  obtain ⟨z0, z1, z2, z3⟩ := wz
  by_cases c1 : kd = 1
  · subst c1
    have he := (HE ⟨1, tx, 0#256, 0⟩).out
    have hm : mayB ⟨1, tx, st, nm⟩ = (nameB tx.data.toList && sameW ⟨1, tx, st, nm⟩ ⟨1, tx, 0#256, 0⟩) := rfl
    have HC := fun w' => Lib.hid (name_any tx hx w')
    generalize sameW ⟨1, tx, st, nm⟩ ⟨1, tx, 0#256, 0⟩ = r at he hm
    generalize nameB tx.data.toList = m at HC hm
    refine key _ hm ?_
    unfold wordC at he
    dsimp only at he
    rw [z0, z1, z2, z3] at he
    clear key HE hm z0 z1 z2 z3
    unfold wordV wordC
    cases m with
    | true =>
      go_enter Tryd.func15, Tryd.ntmps15
      go_wp2
      go_region_with (go_at_call 18; refine (HC _).out.mono ?_; rintro e w3 ⟨rfl, rfl⟩)
      all_goals go_wp2
      all_goals go_ret
      all_goals exact ⟨by simp, by first | exact ((Below.refl _ w).alloc (Nat.le_refl _) _).alloc (by simp) _ | exact (((Below.refl _ w).alloc (Nat.le_refl _) _).alloc (by simp) _).drew | exact (((Below.refl _ w).alloc (Nat.le_refl _) _).alloc (by simp) _).drew.drew⟩
    | false =>
      go_enter Tryd.func15, Tryd.ntmps15
      go_wp2
      go_region_with (go_at_call 18; refine (HC _).out.mono ?_; rintro e w3 ⟨rfl, rfl⟩)
      all_goals go_wp2
      all_goals go_ret
      all_goals exact ⟨by simp, by first | exact ((Below.refl _ w).alloc (Nat.le_refl _) _).alloc (by simp) _ | exact (((Below.refl _ w).alloc (Nat.le_refl _) _).alloc (by simp) _).drew | exact (((Below.refl _ w).alloc (Nat.le_refl _) _).alloc (by simp) _).drew.drew⟩
  by_cases c2 : kd = 2
  · subst c2
    have he := (HE ⟨2, tx, 0#256, 0⟩).out
    have hm : mayB ⟨2, tx, st, nm⟩ = (true && sameW ⟨2, tx, st, nm⟩ ⟨2, tx, 0#256, 0⟩) := rfl
    generalize sameW ⟨2, tx, st, nm⟩ ⟨2, tx, 0#256, 0⟩ = r at he hm
    refine key _ hm ?_
    unfold wordC at he
    dsimp only at he
    rw [z0, z1, z2, z3] at he
    clear key HE hm z0 z1 z2 z3
    unfold wordV wordC
    go_enter Tryd.func15, Tryd.ntmps15
    go_wp2
    go_region
    all_goals go_wp2
    all_goals go_ret
    all_goals exact ⟨by simp, by first | exact ((Below.refl _ w).alloc (Nat.le_refl _) _).alloc (by simp) _ | exact (((Below.refl _ w).alloc (Nat.le_refl _) _).alloc (by simp) _).drew | exact (((Below.refl _ w).alloc (Nat.le_refl _) _).alloc (by simp) _).drew.drew⟩
  by_cases c3 : kd = 3
  · subst c3
    have he := (HE ⟨3, ⟨#[]⟩, st, 0⟩).out
    have hm : mayB ⟨3, tx, st, nm⟩ = (true && sameW ⟨3, tx, st, nm⟩ ⟨3, ⟨#[]⟩, st, 0⟩) := rfl
    generalize sameW ⟨3, tx, st, nm⟩ ⟨3, ⟨#[]⟩, st, 0⟩ = r at he hm
    refine key _ hm ?_
    unfold wordC at he
    dsimp only at he
    clear key HE hm z0 z1 z2 z3
    unfold wordV wordC
    go_enter Tryd.func15, Tryd.ntmps15
    go_wp2
    go_region
    all_goals go_wp2
    all_goals go_ret
    all_goals exact ⟨by simp, by first | exact ((Below.refl _ w).alloc (Nat.le_refl _) _).alloc (by simp) _ | exact (((Below.refl _ w).alloc (Nat.le_refl _) _).alloc (by simp) _).drew | exact (((Below.refl _ w).alloc (Nat.le_refl _) _).alloc (by simp) _).drew.drew⟩
  by_cases c4 : kd = 4
  · subst c4
    have he := (HE ⟨4, ⟨#[]⟩, 0#256, nm⟩).out
    have hm : mayB ⟨4, tx, st, nm⟩ = (decide (0 ≤ nm ∧ nm ≤ 999999999) && sameW ⟨4, tx, st, nm⟩ ⟨4, ⟨#[]⟩, 0#256, nm⟩) := rfl
    generalize sameW ⟨4, tx, st, nm⟩ ⟨4, ⟨#[]⟩, 0#256, nm⟩ = r at he hm
    by_cases d1 : (0 : Int) ≤ nm
    · by_cases d2 : nm ≤ 999999999
      · rw [show decide (0 ≤ nm ∧ nm ≤ 999999999) = true from by simp [d1, d2]] at hm
        refine key _ hm ?_
        unfold wordC at he
        dsimp only at he
        rw [z0, z1, z2, z3] at he
        clear key HE hm z0 z1 z2 z3
        unfold wordV wordC
        go_enter Tryd.func15, Tryd.ntmps15
        go_wp2
        go_region
        all_goals go_wp2
        all_goals go_ret
        all_goals exact ⟨by simp, by first | exact ((Below.refl _ w).alloc (Nat.le_refl _) _).alloc (by simp) _ | exact (((Below.refl _ w).alloc (Nat.le_refl _) _).alloc (by simp) _).drew | exact (((Below.refl _ w).alloc (Nat.le_refl _) _).alloc (by simp) _).drew.drew⟩
      · rw [show decide (0 ≤ nm ∧ nm ≤ 999999999) = false from by simp [d2]] at hm
        refine key _ hm ?_
        unfold wordC at he
        dsimp only at he
        rw [z0, z1, z2, z3] at he
        clear key HE hm z0 z1 z2 z3
        unfold wordV wordC
        go_enter Tryd.func15, Tryd.ntmps15
        go_wp2
        go_region
        all_goals go_wp2
        all_goals go_ret
        all_goals exact ⟨by simp, by first | exact ((Below.refl _ w).alloc (Nat.le_refl _) _).alloc (by simp) _ | exact (((Below.refl _ w).alloc (Nat.le_refl _) _).alloc (by simp) _).drew | exact (((Below.refl _ w).alloc (Nat.le_refl _) _).alloc (by simp) _).drew.drew⟩
    · rw [show decide (0 ≤ nm ∧ nm ≤ 999999999) = false from by simp [d1]] at hm
      have e1 : decide ((0 : Int) ≤ nm) = false := by simp; omega
      refine key _ hm ?_
      unfold wordC at he
      dsimp only at he
      rw [z0, z1, z2, z3] at he
      clear key HE hm z0 z1 z2 z3
      unfold wordV wordC
      go_enter Tryd.func15, Tryd.ntmps15
      go_wp2
      go_region
      all_goals go_wp2
      all_goals go_ret
      all_goals exact ⟨by simp, by first | exact ((Below.refl _ w).alloc (Nat.le_refl _) _).alloc (by simp) _ | exact (((Below.refl _ w).alloc (Nat.le_refl _) _).alloc (by simp) _).drew | exact (((Below.refl _ w).alloc (Nat.le_refl _) _).alloc (by simp) _).drew.drew⟩
  by_cases c5 : kd = 5
  · subst c5
    have he := (HE ⟨5, tx, 0#256, 0⟩).out
    have hm : mayB ⟨5, tx, st, nm⟩ = (signT tx.data.toList && sameW ⟨5, tx, st, nm⟩ ⟨5, tx, 0#256, 0⟩) := rfl
    generalize sameW ⟨5, tx, st, nm⟩ ⟨5, tx, 0#256, 0⟩ = r at he hm
    by_cases d1 : tx.size = 1
    · obtain ⟨b, hb⟩ : ∃ b, b = (tx[0]'(by omega)).toNat := ⟨_, rfl⟩
      have hi : ∀ h, (tx[0]'h).toNat = b := fun h => hb.symm
      have hbl : b < 256 := by rw [hb]; exact (tx[0]'(by omega)).toNat_lt
      have hs : signT tx.data.toList = sgnB b := by
        have h := drop_at tx 0 (by omega)
        rw [List.drop_zero, List.drop_eq_nil_of_le (by rw [← Lib.size_eq]; omega)] at h
        rw [h, hb]
        rfl
      rw [hs] at hm
      have HC := fun w' => Lib.hid (isSgn_any b hbl w')
      have n1 : ((tx.size : Int) == 1) = true := by rw [beq_iff_eq]; omega
      clear hb hs
      cases hg : sgnB b with
      | true =>
        rw [hg] at hm HC
        clear hg
        refine key _ hm ?_
        unfold wordC at he
        dsimp only at he
        rw [z0, z1, z2, z3] at he
        clear key HE hm z0 z1 z2 z3
        unfold wordV wordC
        go_enter Tryd.func15, Tryd.ntmps15
        go_wp2
        go_region_with (go_at_call 27; refine (HC _).out.mono ?_; rintro e w3 ⟨rfl, rfl⟩)
        all_goals go_wp2
        all_goals go_ret
        all_goals exact ⟨by simp, by first | exact ((Below.refl _ w).alloc (Nat.le_refl _) _).alloc (by simp) _ | exact (((Below.refl _ w).alloc (Nat.le_refl _) _).alloc (by simp) _).drew | exact (((Below.refl _ w).alloc (Nat.le_refl _) _).alloc (by simp) _).drew.drew⟩
      | false =>
        rw [hg] at hm HC
        clear hg
        refine key _ hm ?_
        unfold wordC at he
        dsimp only at he
        rw [z0, z1, z2, z3] at he
        clear key HE hm z0 z1 z2 z3
        unfold wordV wordC
        go_enter Tryd.func15, Tryd.ntmps15
        go_wp2
        go_region_with (go_at_call 27; refine (HC _).out.mono ?_; rintro e w3 ⟨rfl, rfl⟩)
        all_goals go_wp2
        all_goals go_ret
        all_goals exact ⟨by simp, by first | exact ((Below.refl _ w).alloc (Nat.le_refl _) _).alloc (by simp) _ | exact (((Below.refl _ w).alloc (Nat.le_refl _) _).alloc (by simp) _).drew | exact (((Below.refl _ w).alloc (Nat.le_refl _) _).alloc (by simp) _).drew.drew⟩
    · have hs : signT tx.data.toList = false := by
        have h : tx.data.toList.length ≠ 1 := by rw [← Lib.size_eq]; exact d1
        match hl : tx.data.toList with
        | [] => rfl
        | [c] => rw [hl] at h; simp at h
        | c :: d :: l => rfl
      rw [hs] at hm
      have n1 : ((tx.size : Int) == 1) = false := by rw [beq_eq_false_iff_ne]; omega
      clear hs
      refine key _ hm ?_
      unfold wordC at he
      dsimp only at he
      rw [z0, z1, z2, z3] at he
      clear key HE hm z0 z1 z2 z3
      unfold wordV wordC
      go_enter Tryd.func15, Tryd.ntmps15
      go_wp2
      go_region
      all_goals go_wp2
      all_goals go_ret
      all_goals exact ⟨by simp, by first | exact ((Below.refl _ w).alloc (Nat.le_refl _) _).alloc (by simp) _ | exact (((Below.refl _ w).alloc (Nat.le_refl _) _).alloc (by simp) _).drew | exact (((Below.refl _ w).alloc (Nat.le_refl _) _).alloc (by simp) _).drew.drew⟩
  · have hm : mayB ⟨kd, tx, st, nm⟩ = false := by unfold mayB okW; simp [c1, c2, c3, c4, c5]
    refine key _ hm ?_
    clear key HE hm z0 z1 z2 z3
    unfold wordV wordC
    go_enter Tryd.func15, Tryd.ntmps15
    go_wp2
    go_ret
    exact ⟨by simp, ((Below.refl _ w).alloc (Nat.le_refl _) _).alloc (by simp) _⟩
end Go.Proofs.YtdodkbpagbblmaaDoor
