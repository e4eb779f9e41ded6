import Derived.Test.YtegmoeeeomjkgaaDoorR4
import Derived.Test.YtegmoeeeomjkgaaDoorT3
namespace Go.Proofs.YtegmoeeeomjkgaaDoor
open Go Go.RowKit

/-- Does a byte's text stand at a text's beginning? -/
def matchB (l : List UInt8) (b : Nat) : Prop := byteT b <+: l.map UInt8.toNat

theorem hexs_two (c d : UInt8) : hexs 0 [c, d] = (match hexD c.toNat, hexD d.toNat with | some a, some b => some (16 * a + b) | _, _ => none) := by
  unfold hexs
  cases h1 : hexD c.toNat with
  | none => rfl
  | some a =>
    simp only [Nat.zero_mul, Nat.zero_add]
    unfold hexs
    cases h2 : hexD d.toNat with
    | none => rfl
    | some b =>
      simp only
      unfold hexs
      congr 1; omega

theorem hexD_lt (c : Nat) (hc : c < 256) (a : Nat) (h : hexD c = some a) : a < 16 := by
  have hall : ∀ c : Fin 256, ∀ a, hexD c.val = some a → a < 16 := by
    intro c a h
    have h2 : ∀ c : Fin 256, (hexD c.val).all (fun a => decide (a < 16)) = true := by decide +kernel
    have := h2 c
    rw [h] at this
    simpa using this
  exact hall ⟨c, hc⟩ a h

theorem hexD_C : ∀ b : Fin 256, (hexD (hexC (b.val / 16)) = some (b.val / 16)) ∧ (hexD (hexC (b.val % 16)) = some (b.val % 16)) := by decide +kernel

theorem byteT_cases (b : Nat) : (b = 9 ∧ byteT b = [92, 116]) ∨ (b = 10 ∧ byteT b = [92, 110]) ∨ (b = 13 ∧ byteT b = [92, 114]) ∨ (signB b = true ∧ byteT b = [92, b]) ∨ (signB b = false ∧ (32 < b ∧ b ≤ 126) ∧ byteT b = [b]) ∨ (byteT b = [92, 120, hexC (b / 16), hexC (b % 16)]) := by
  unfold byteT
  by_cases c1 : b = 9
  · exact .inl ⟨c1, by rw [if_pos c1]⟩
  · by_cases c2 : b = 10
    · exact .inr (.inl ⟨c2, by rw [if_neg c1, if_pos c2]⟩)
    · by_cases c3 : b = 13
      · exact .inr (.inr (.inl ⟨c3, by rw [if_neg c1, if_neg c2, if_pos c3]⟩))
      · cases hs : signB b with
        | true => exact .inr (.inr (.inr (.inl ⟨rfl, by rw [if_neg c1, if_neg c2, if_neg c3]; rfl⟩)))
        | false =>
          by_cases c5 : 32 < b ∧ b ≤ 126
          · exact .inr (.inr (.inr (.inr (.inl ⟨rfl, c5, by rw [if_neg c1, if_neg c2, if_neg c3, if_neg (by simp), if_pos c5]⟩))))
          · exact .inr (.inr (.inr (.inr (.inr (by rw [if_neg c1, if_neg c2, if_neg c3, if_neg (by simp), if_neg c5])))))

theorem map_pre1 {l : List UInt8} {x : Nat} (h : [x] <+: l.map UInt8.toNat) : ∃ c r, l = c :: r ∧ c.toNat = x := by
  cases l with
  | nil => obtain ⟨t, ht⟩ := h; simp at ht
  | cons c r => obtain ⟨t, ht⟩ := h; simp at ht; exact ⟨c, r, rfl, ht.1.symm⟩
theorem map_pre2 {l : List UInt8} {x y : Nat} (h : [x, y] <+: l.map UInt8.toNat) : ∃ c d r, l = c :: d :: r ∧ c.toNat = x ∧ d.toNat = y := by
  match l with
  | [] => obtain ⟨t, ht⟩ := h; simp at ht
  | [c] => obtain ⟨t, ht⟩ := h; simp at ht
  | c :: d :: r => obtain ⟨t, ht⟩ := h; simp at ht; exact ⟨c, d, r, rfl, ht.1.symm, ht.2.1.symm⟩
theorem map_pre4 {l : List UInt8} {x y z u : Nat} (h : [x, y, z, u] <+: l.map UInt8.toNat) : ∃ c d e f r, l = c :: d :: e :: f :: r ∧ c.toNat = x ∧ d.toNat = y ∧ e.toNat = z ∧ f.toNat = u := by
  match l with
  | [] => obtain ⟨t, ht⟩ := h; simp at ht
  | [c] => obtain ⟨t, ht⟩ := h; simp at ht
  | [c, d] => obtain ⟨t, ht⟩ := h; simp at ht
  | [c, d, e] => obtain ⟨t, ht⟩ := h; simp at ht
  | c :: d :: e :: f :: r => obtain ⟨t, ht⟩ := h; simp at ht; exact ⟨c, d, e, f, r, rfl, ht.1.symm, ht.2.1.symm, ht.2.2.1.symm, ht.2.2.2.1.symm⟩

/-- A byte whose text stands there is the one that is read there. -/
theorem match_byteB (l : List UInt8) (b : Nat) (hb : b < 256) (h : matchB l b) : byteB l = (b, (byteT b).length) := by
  unfold matchB at h
  rcases byteT_cases b with ⟨rfl, e⟩ | ⟨rfl, e⟩ | ⟨rfl, e⟩ | ⟨hs, e⟩ | ⟨hs, hr, e⟩ | e
  · rw [e] at h ⊢
    obtain ⟨c, d, r, rfl, hc, hd⟩ := map_pre2 h
    simp [byteB, escB, hc, hd]
  · rw [e] at h ⊢
    obtain ⟨c, d, r, rfl, hc, hd⟩ := map_pre2 h
    simp [byteB, escB, hc, hd]
  · rw [e] at h ⊢
    obtain ⟨c, d, r, rfl, hc, hd⟩ := map_pre2 h
    simp [byteB, escB, hc, hd]
  · rw [e] at h ⊢
    obtain ⟨c, d, r, rfl, hc, hd⟩ := map_pre2 h
    have hcs : b = 92 ∨ b = 91 ∨ b = 93 ∨ b = 45 ∨ b = 94 := by
      unfold signB at hs; simp only [Bool.or_eq_true, beq_iff_eq] at hs; omega
    have n1 : ¬ b = 116 := by omega
    have n2 : ¬ b = 110 := by omega
    have n3 : ¬ b = 114 := by omega
    simp [byteB, escB, hc, hd, n1, n2, n3, hs]
  · rw [e] at h ⊢
    obtain ⟨c, r, rfl, hc⟩ := map_pre1 h
    have hn : ¬ b = 92 := by intro e; subst e; cases hs
    have h1 : 32 ≤ b := by omega
    simp [byteB, hc, hn, hs, h1, hr.2]
  · rw [e] at h ⊢
    obtain ⟨c, d, x, y, r, rfl, hc, hd, hx, hy⟩ := map_pre4 h
    have hk : hexs 0 [x, y] = some b := by
      rw [hexs_two, hx, hy, (hexD_C ⟨b, hb⟩).1, (hexD_C ⟨b, hb⟩).2]
      simp only
      congr 1; omega
    have n1 : signB 120 = false := by decide
    simp [byteB, escB, hc, hd, n1, hk, Nat.mod_eq_of_lt hb]

/-- What is read there stands there by its text, or is a blank, or an escape by digits. -/
theorem byteB_match (l : List UInt8) (h : (byteB l).2 ≠ 0) : matchB l (byteB l).1 ∨ (∃ c r, l = c :: r ∧ c.toNat = 32) ∨ ∃ c d x y r, l = c :: d :: x :: y :: r ∧ c.toNat = 92 ∧ d.toNat = 120 ∧ hexD x.toNat ≠ none ∧ hexD y.toNat ≠ none := by
  cases l with
  | nil => exact absurd rfl h
  | cons c r =>
    by_cases hc : c.toNat = 92
    · have he : byteB (c :: r) = escB (c :: r) := by simp [byteB, hc]
      rw [he] at h ⊢
      cases r with
      | nil => exact absurd rfl h
      | cons d r =>
        unfold escB at h ⊢
        dsimp only at h ⊢
        by_cases k1 : d.toNat = 116
        · left; rw [if_pos k1]; unfold matchB; rw [show byteT 9 = [92, 116] from rfl]; exact ⟨r.map UInt8.toNat, by simp [hc, k1]⟩
        · by_cases k2 : d.toNat = 110
          · left; rw [if_neg k1, if_pos k2]; unfold matchB; rw [show byteT 10 = [92, 110] from rfl]; exact ⟨r.map UInt8.toNat, by simp [hc, k2]⟩
          · by_cases k3 : d.toNat = 114
            · left; rw [if_neg k1, if_neg k2, if_pos k3]; unfold matchB; rw [show byteT 13 = [92, 114] from rfl]; exact ⟨r.map UInt8.toNat, by simp [hc, k3]⟩
            · by_cases k4 : signB d.toNat = true
              · left; rw [if_neg k1, if_neg k2, if_neg k3, if_pos k4]; unfold matchB
                have hcs : d.toNat = 92 ∨ d.toNat = 91 ∨ d.toNat = 93 ∨ d.toNat = 45 ∨ d.toNat = 94 := by
                  unfold signB at k4; simp only [Bool.or_eq_true, beq_iff_eq] at k4; omega
                have ht : byteT d.toNat = [92, d.toNat] := by rcases hcs with e | e | e | e | e <;> rw [e] <;> rfl
                rw [ht]; exact ⟨r.map UInt8.toNat, by simp [hc]⟩
              · rw [if_neg k1, if_neg k2, if_neg k3, if_neg k4] at h ⊢
                by_cases k5 : d.toNat = 120 ∧ 2 ≤ r.length
                · rw [if_pos k5] at h ⊢
                  right; right
                  match r, k5, h with
                  | x :: y :: r, k5, h =>
                    refine ⟨c, d, x, y, r, rfl, hc, k5.1, ?_, ?_⟩
                    · intro hn
                      simp [hexs_two, hn] at h
                    · intro hn
                      simp [hexs_two, hn] at h
                · rw [if_neg k5] at h; exact absurd rfl h
    · by_cases hr : 32 ≤ c.toNat ∧ c.toNat ≤ 126 ∧ signB c.toNat = false
      · have he : byteB (c :: r) = (c.toNat, 1) := by simp [byteB, hc, hr]
        rw [he]
        by_cases h32 : c.toNat = 32
        · exact .inr (.inl ⟨c, r, rfl, h32⟩)
        · left
          unfold matchB
          have ht : byteT c.toNat = [c.toNat] := by
            rcases byteT_cases c.toNat with ⟨e, _⟩ | ⟨e, _⟩ | ⟨e, _⟩ | ⟨e, _⟩ | ⟨_, _, e⟩ | e
            · omega
            · omega
            · omega
            · rw [hr.2.2] at e; cases e
            · exact e
            · unfold byteT at e ⊢
              rw [if_neg (by omega), if_neg (by omega), if_neg (by omega), hr.2.2, if_neg (by simp), if_pos (by omega)]
          rw [ht]
          exact ⟨r.map UInt8.toNat, by simp⟩
      · have he : byteB (c :: r) = (0, 0) := by simp only [byteB, if_neg hc, if_neg hr]
        rw [he] at h; exact absurd rfl h
end Go.Proofs.YtegmoeeeomjkgaaDoor
