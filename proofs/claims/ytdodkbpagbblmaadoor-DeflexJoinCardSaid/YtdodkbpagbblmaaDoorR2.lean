import Derived.Test.YtdodkbpagbblmaaDoorR
namespace Go.Proofs.YtdodkbpagbblmaaDoor
open Go Go.RowKit

/-- What a byte at a text's beginning is, and how long it stands there. -/
def byteB : List UInt8 → Nat × Nat
  | [] => (0, 0)
  | c :: r => if c.toNat = 92 then escB (c :: r) else if 32 ≤ c.toNat ∧ c.toNat ≤ 126 ∧ signB c.toNat = false then (c.toNat, 1) else (0, 0)

theorem list_empty (s : ByteArray) : s.size = 0 ↔ s.data.toList = [] := by
  rw [Lib.size_eq, List.length_eq_zero_iff]

theorem isEmpty_of (s : ByteArray) (h : s.size = 0) : s.toList.isEmpty = true := by
  rw [← decide_eq_emptyBytes]
  refine decide_eq_true ?_
  cases s with
  | mk a => exact congrArg ByteArray.mk (Array.eq_empty_of_size_eq_zero h)
theorem isEmpty_not (s : ByteArray) (h : s.size ≠ 0) : s.toList.isEmpty = false := by
  rw [← decide_eq_emptyBytes]
  exact decide_eq_false (fun e => h (by rw [e]; rfl))

set_option maxRecDepth 100000 in
set_option maxHeartbeats 4000000 in
theorem readByte_any (s : ByteArray) (hs : s.size ≤ 140737488351232) (w : World) (hG : Glob w) :
    Calls Tryd.prog 76 #[.string s] w fun e w' => e = .returned (.tuple #[.int .u8 (byteB s.data.toList).1, .int .i64 (byteB s.data.toList).2]) ∧ Below w.heap.size w w' := by
  have HR := Lib.hid (readEscape_any s hs w hG)
  clear hG
  by_cases h0 : s.size = 0
  · have hE : byteB s.data.toList = (0, 0) := by rw [(list_empty s).1 h0]; rfl
    have hem := isEmpty_of s h0
    rw [hE]
    go_enter Tryd.func76, Tryd.ntmps76
    go_wp2
    go_ret2
    exact ⟨rfl, Below.refl _ _⟩
  · have hem := isEmpty_not s h0
    obtain ⟨b, hb⟩ : ∃ b, b = (s[0]'(by omega)).toNat := ⟨_, rfl⟩
    have hb256 : b < 256 := by rw [hb]; exact (s[0]'(by omega)).toNat_lt
    have hi : ∀ h, (s[0]'h).toNat = b := fun h => hb.symm
    have HE : Hid (byteB s.data.toList = if b = 92 then escB s.data.toList else if 32 ≤ b ∧ b ≤ 126 ∧ signB b = false then (b, 1) else (0, 0)) := by
      refine Lib.hid ?_
      have hl : ∃ x r, s.data.toList = x :: r := by
        have : s.data.toList ≠ [] := fun e => h0 ((list_empty s).2 e)
        match s.data.toList, this with
        | x :: r, _ => exact ⟨x, r, rfl⟩
      obtain ⟨x, r, hl⟩ := hl
      have hy : b = x.toNat := by
        rw [hb]
        show (s.data[0]'_).toNat = _
        rw [← Array.getElem_toList]
        simp [hl]
      rw [hl, hy]
      rfl
    clear hb
    have HS := fun w' => Lib.hid (isSign_any b hb256 w')
    have hpos : (0 : Int) < s.size := by omega
    by_cases c1 : b = 92
    · have hE : byteB s.data.toList = escB s.data.toList := by rw [HE.out, if_pos c1]
      rw [hE]
      clear HE hE
      obtain ⟨q, hq⟩ : ∃ q, q = escB s.data.toList := ⟨_, rfl⟩
      rw [← hq] at HR ⊢
      clear hq
      obtain ⟨q1, q2⟩ := q
      subst c1
      go_enter Tryd.func76, Tryd.ntmps76
      go_wp2_with (go_at_call 91; refine HR.out.mono ?_; rintro e w1 ⟨rfl, hB⟩)
      go_ret2
      exact ⟨rfl, by assumption⟩
    · have d1 : ¬ (b : Int) = 92 := by omega
      have hE : byteB s.data.toList = if 32 ≤ b ∧ b ≤ 126 ∧ signB b = false then (b, 1) else (0, 0) := by rw [HE.out, if_neg c1]
      rw [hE]
      clear HE hE HR
      by_cases c2 : 32 ≤ b
      · by_cases c3 : b ≤ 126
        · cases hsg : signB b with
          | true =>
            rw [if_neg (by simp)]
            go_enter Tryd.func76, Tryd.ntmps76
            go_wp2_with (go_at_call 81; refine (HS _).out.mono ?_; rintro e w' ⟨rfl, rfl⟩)
            go_ret2
            exact ⟨rfl, Below.refl _ _⟩
          | false =>
            rw [if_pos ⟨c2, c3, rfl⟩]
            go_enter Tryd.func76, Tryd.ntmps76
            go_wp2_with (go_at_call 81; refine (HS _).out.mono ?_; rintro e w' ⟨rfl, rfl⟩)
            go_ret2
            exact ⟨rfl, Below.refl _ _⟩
        · rw [if_neg (fun h => c3 h.2.1)]
          go_enter Tryd.func76, Tryd.ntmps76
          go_wp2
          go_ret2
          exact ⟨rfl, Below.refl _ _⟩
      · rw [if_neg (fun h => c2 h.1)]
        go_enter Tryd.func76, Tryd.ntmps76
        go_wp2
        go_ret2
        exact ⟨rfl, Below.refl _ _⟩

theorem escB_lt (l : List UInt8) : (escB l).1 < 256 ∧ (escB l).2 ≤ l.length := by
  unfold escB
  split
  · rename_i b r
    have := b.toNat_lt
    split
    · exact ⟨by decide, by simp⟩
    · split
      · exact ⟨by decide, by simp⟩
      · split
        · exact ⟨by decide, by simp⟩
        · split
          · exact ⟨this, by simp⟩
          · split
            · rename_i h
              split
              · exact ⟨Nat.mod_lt _ (by omega), by simp; omega⟩
              · exact ⟨by decide, by simp⟩
            · exact ⟨by decide, by simp⟩
  · exact ⟨by decide, by simp⟩

theorem byteB_lt (l : List UInt8) : (byteB l).1 < 256 ∧ (byteB l).2 ≤ l.length := by
  unfold byteB
  split
  · exact ⟨by decide, by simp⟩
  · rename_i c r
    have := c.toNat_lt
    split
    · exact escB_lt _
    · split
      · exact ⟨this, by simp⟩
      · exact ⟨by decide, by simp⟩
end Go.Proofs.YtdodkbpagbblmaaDoor
