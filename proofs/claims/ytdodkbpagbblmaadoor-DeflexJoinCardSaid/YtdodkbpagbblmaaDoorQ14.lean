import Derived.Test.YtdodkbpagbblmaaDoorQ9
import Derived.Test.YtdodkbpagbblmaaDoorT3
namespace Go.Proofs.YtdodkbpagbblmaaDoor
open Go Go.RowKit

/-- A byte as it stands between two quotes. -/
def quoteB (b : Nat) : List Nat :=
  if b = 10 then [92, 110] else if b = 9 then [92, 116] else if b = 13 then [92, 114] else if b = 34 ∨ b = 92 then [92, b] else if 32 ≤ b ∧ b ≤ 126 then [b] else [92, 120, hexC (b / 16), hexC (b % 16)]
theorem quoteB_len (b : Nat) : (quoteB b).length ≤ 4 := by
  unfold quoteB
  repeat' split
  all_goals simp
theorem quoteB_pos (b : Nat) : 1 ≤ (quoteB b).length := by
  unfold quoteB
  repeat' split
  all_goals simp
theorem quoteB_lt (b : Nat) (hb : b < 256) : ∀ x ∈ quoteB b, x < 256 := by
  have hx : ∀ n, n < 16 → hexC n < 256 := fun n h => by unfold hexC; split <;> omega
  unfold quoteB
  repeat' split
  all_goals simp
  all_goals (try omega)
  exact ⟨hx _ (by omega), hx _ (by omega)⟩

set_option maxRecDepth 100000 in
set_option maxHeartbeats 4000000 in
theorem quoteB_any (v : Value) (l : List Nat) (b : Nat) (hb : b < 256) (n₀ : Nat) (w : World) (hown : w.ownsRow n₀ 5 1 v l.length (l.map byteV)) (hn : n₀ ≤ w.heap.size) (hl : l.length ≤ 1000000000) :
    Calls Tryd.prog 45 #[v, .int .u8 b] w (bytePost (l ++ quoteB b) n₀ w) := by
  obtain ⟨i0, hi, hz0, hz1, hz2⟩ := info_parts Tryd.info5
  by_cases c1 : b = 10
  · have hE : quoteB b = [92, 110] := by subst c1; rfl
    rw [hE]
    subst c1
    clear hE
    go_enter Tryd.func45, Tryd.ntmps45
    go_wp2_with (at_builtin; refine Lib.wpList_append_own_string _ rfl _ _ 22 9 rfl n₀ 5 i0 Tryd.underlying22 Tryd.underlying9 hi hz0 hz1 hz2 _ _ _ rfl hown ⟨#[92, 110]⟩ rfl (by show l.length + 2 ≤ maxLen; unfold maxLen; omega) (by show l.length + 2 ≤ _; omega) hn ?_; intro v' w1 hown1 hgrow _)
    go_ret
    obtain ⟨k1, k2⟩ := own_fin hown (Lib.OthersKept.refl 5 none w) (Below.refl n₀ w) hn hgrow
    refine ⟨v', rfl, ?_, k1, k2⟩
    have e1 : (l ++ [92, 110]).length = l.length + 2 := by simp
    have e2 : (l ++ [92, 110]).map byteV = l.map byteV ++ Lib.strCells ⟨#[92, 110]⟩ := by simp [byteV, Lib.strCells]
    rw [e1, e2]; exact hown1
  by_cases c2 : b = 9
  · have hE : quoteB b = [92, 116] := by subst c2; rfl
    rw [hE]
    subst c2
    clear hE
    go_enter Tryd.func45, Tryd.ntmps45
    go_wp2_with (at_builtin; refine Lib.wpList_append_own_string _ rfl _ _ 22 9 rfl n₀ 5 i0 Tryd.underlying22 Tryd.underlying9 hi hz0 hz1 hz2 _ _ _ rfl hown ⟨#[92, 116]⟩ rfl (by show l.length + 2 ≤ maxLen; unfold maxLen; omega) (by show l.length + 2 ≤ _; omega) hn ?_; intro v' w1 hown1 hgrow _)
    go_ret
    obtain ⟨k1, k2⟩ := own_fin hown (Lib.OthersKept.refl 5 none w) (Below.refl n₀ w) hn hgrow
    refine ⟨v', rfl, ?_, k1, k2⟩
    have e1 : (l ++ [92, 116]).length = l.length + 2 := by simp
    have e2 : (l ++ [92, 116]).map byteV = l.map byteV ++ Lib.strCells ⟨#[92, 116]⟩ := by simp [byteV, Lib.strCells]
    rw [e1, e2]; exact hown1
  by_cases c3 : b = 13
  · have hE : quoteB b = [92, 114] := by subst c3; rfl
    rw [hE]
    subst c3
    clear hE
    go_enter Tryd.func45, Tryd.ntmps45
    go_wp2_with (at_builtin; refine Lib.wpList_append_own_string _ rfl _ _ 22 9 rfl n₀ 5 i0 Tryd.underlying22 Tryd.underlying9 hi hz0 hz1 hz2 _ _ _ rfl hown ⟨#[92, 114]⟩ rfl (by show l.length + 2 ≤ maxLen; unfold maxLen; omega) (by show l.length + 2 ≤ _; omega) hn ?_; intro v' w1 hown1 hgrow _)
    go_ret
    obtain ⟨k1, k2⟩ := own_fin hown (Lib.OthersKept.refl 5 none w) (Below.refl n₀ w) hn hgrow
    refine ⟨v', rfl, ?_, k1, k2⟩
    have e1 : (l ++ [92, 114]).length = l.length + 2 := by simp
    have e2 : (l ++ [92, 114]).map byteV = l.map byteV ++ Lib.strCells ⟨#[92, 114]⟩ := by simp [byteV, Lib.strCells]
    rw [e1, e2]; exact hown1
  by_cases c4 : b = 34 ∨ b = 92
  · have hE : quoteB b = [92, b] := by unfold quoteB; rw [if_neg c1, if_neg c2, if_neg c3, if_pos c4]
    rw [hE]
    clear hE
    rcases c4 with c4 | c4
    · subst c4
      go_enter Tryd.func45, Tryd.ntmps45
      go_wp2_with (at_builtin; refine wpList_append_own _ rfl _ _ 22 rfl n₀ 5 i0 (.int .u8 0) 1 1 Tryd.underlying22 hi hz0 hz1 hz2 rfl (by decide) _ _ _ rfl (hown.alloc _) ⟨w.heap.size, 0, none⟩ 2 2 [.int .u8 92, .int .u8 34] rfl rfl (cell_two_new _ _ _ _) (by simp [Value.oneCell']) (by unfold maxLen; omega) (by omega) (by simp; omega) ?_; intro v' w1 hown1 hgrow _)
      go_ret
      obtain ⟨k1, k2⟩ := own_fin (hown.alloc _) ((Lib.OthersKept.refl 5 none w).alloc _) ((Below.refl n₀ w).alloc hn _) hn hgrow
      refine ⟨v', rfl, ?_, k1, k2⟩
      have e1 : (l ++ [92, 34]).length = l.length + 2 := by simp
      have e2 : (l ++ [92, 34]).map byteV = l.map byteV ++ [.int .u8 92, .int .u8 34] := by simp [byteV]
      rw [e1, e2]; exact hown1
    · subst c4
      go_enter Tryd.func45, Tryd.ntmps45
      go_wp2_with (at_builtin; refine wpList_append_own _ rfl _ _ 22 rfl n₀ 5 i0 (.int .u8 0) 1 1 Tryd.underlying22 hi hz0 hz1 hz2 rfl (by decide) _ _ _ rfl (hown.alloc _) ⟨w.heap.size, 0, none⟩ 2 2 [.int .u8 92, .int .u8 92] rfl rfl (cell_two_new _ _ _ _) (by simp [Value.oneCell']) (by unfold maxLen; omega) (by omega) (by simp; omega) ?_; intro v' w1 hown1 hgrow _)
      go_ret
      obtain ⟨k1, k2⟩ := own_fin (hown.alloc _) ((Lib.OthersKept.refl 5 none w).alloc _) ((Below.refl n₀ w).alloc hn _) hn hgrow
      refine ⟨v', rfl, ?_, k1, k2⟩
      have e1 : (l ++ [92, 92]).length = l.length + 2 := by simp
      have e2 : (l ++ [92, 92]).map byteV = l.map byteV ++ [.int .u8 92, .int .u8 92] := by simp [byteV]
      rw [e1, e2]; exact hown1
  have c4' : ¬ b = 34 := fun h => c4 (.inl h)
  have c5' : ¬ b = 92 := fun h => c4 (.inr h)
  have d1 : ¬ (b : Int) = 10 := by omega
  have d2 : ¬ (b : Int) = 9 := by omega
  have d3 : ¬ (b : Int) = 13 := by omega
  have d4 : ((b : Int) == 34) = false := by rw [beq_eq_false_iff_ne]; omega
  have d5 : ((b : Int) == 92) = false := by rw [beq_eq_false_iff_ne]; omega
  by_cases c6 : 32 ≤ b ∧ b ≤ 126
  · have hE : quoteB b = [b] := by unfold quoteB; rw [if_neg c1, if_neg c2, if_neg c3, if_neg c4, if_pos c6]
    rw [hE]
    clear hE c4
    obtain ⟨c6, c7⟩ := c6
    have d6 : (32 : Int) ≤ (b : Int) := by omega
    have d7 : (b : Int) ≤ 126 := by omega

    go_enter Tryd.func45, Tryd.ntmps45
    go_wp2_with (at_builtin; refine wpList_append_own _ rfl _ _ 22 rfl n₀ 5 i0 (.int .u8 0) 1 1 Tryd.underlying22 hi hz0 hz1 hz2 rfl (by decide) _ _ _ rfl (hown.alloc _) ⟨w.heap.size, 0, none⟩ 1 1 [.int .u8 b] rfl rfl (cell_one_new _ _ _) (by simp [Value.oneCell']) (by unfold maxLen; omega) (by omega) (by simp; omega) ?_; intro v' w1 hown1 hgrow _)
    go_ret
    obtain ⟨k1, k2⟩ := own_fin (hown.alloc _) ((Lib.OthersKept.refl 5 none w).alloc _) ((Below.refl n₀ w).alloc hn _) hn hgrow
    refine ⟨v', rfl, ?_, k1, k2⟩
    have e1 : (l ++ [b]).length = l.length + 1 := by simp
    have e2 : (l ++ [b]).map byteV = l.map byteV ++ [.int .u8 b] := by simp [byteV]
    rw [e1, e2]; exact hown1
  · have hE : quoteB b = [92, 120, hexC (b / 16), hexC (b % 16)] := by unfold quoteB; rw [if_neg c1, if_neg c2, if_neg c3, if_neg c4, if_neg c6]
    rw [hE]
    clear hE c4
    have hI1 : ∀ w', (Instr.index 9 (.string ⟨#[48, 49, 50, 51, 52, 53, 54, 55, 56, 57, 97, 98, 99, 100, 101, 102]⟩) (.int .u8 ((b : Int) / 16))).run Tryd.prog w' = .ok (.int .u8 (hexC (b / 16) : Nat)) w' := by
      rw [show ((b : Int) / 16) = ((b / 16 : Nat) : Int) by omega]; exact hex_ix (b / 16) (by omega)
    have hI2 : ∀ w', (Instr.index 9 (.string ⟨#[48, 49, 50, 51, 52, 53, 54, 55, 56, 57, 97, 98, 99, 100, 101, 102]⟩) (.int .u8 ((b : Int) % 16))).run Tryd.prog w' = .ok (.int .u8 (hexC (b % 16) : Nat)) w' := by
      rw [show ((b : Int) % 16) = ((b % 16 : Nat) : Int) by omega]; exact hex_ix (b % 16) (by omega)
    have hb15 : bits .and .u8 (b : Int) 15 = (b : Int) % 16 := by
      have h := u8_and_nat b 15 hb (by omega)
      rw [and15] at h
      exact h.trans (by omega)
    by_cases c7 : 32 ≤ b
    · have c8 : ¬ b ≤ 126 := fun h => c6 ⟨c7, h⟩
      have d6 : (32 : Int) ≤ (b : Int) := by omega
      have d7 : ¬ (b : Int) ≤ 126 := by omega

      go_enter Tryd.func45, Tryd.ntmps45
      go_wp2
      go_region_law (first | (refine step_append_lies _ (by rfl) _ _ _ (by rfl) n₀ 5 i0 (.int .u8 0) 1 1 Tryd.underlying22 hi hz0 hz1 hz2 rfl (by decide) _ _ _ (by rfl) (hown.alloc (.cells #[.int .u8 92, .int .u8 120, .int .u8 (hexC (b / 16) : Nat), .int .u8 (hexC (b % 16) : Nat)] 5)) ⟨w.heap.size, 0, none⟩ 4 4 [.int .u8 92, .int .u8 120, .int .u8 (hexC (b / 16) : Nat), .int .u8 (hexC (b % 16) : Nat)] (by rfl) (by rfl) (World.news_of_block (cs := #[.int .u8 92, .int .u8 120, .int .u8 (hexC (b / 16) : Nat), .int .u8 (hexC (b % 16) : Nat)]) (Blk.new w 5 _)) (by simp [Value.oneCell']) (by omega) (by unfold maxLen; omega) (by omega) (by simp; omega) _ rfl ?_; intro g cap w1 hown1 hgrow _ _))
      all_goals go_wp2
      all_goals go_ret
      all_goals obtain ⟨k1, k2⟩ := own_fin (w1 := (w.alloc _).drew) (hown.alloc _) ((Lib.OthersKept.refl 5 none w).alloc _).drew ((Below.refl n₀ w).alloc hn _).drew hn hgrow
      all_goals refine ⟨_, rfl, ?_, k1, k2⟩
      all_goals have e1 : (l ++ [92, 120, hexC (b / 16), hexC (b % 16)]).length = l.length + 4 := by simp
      all_goals have e2 : (l ++ [92, 120, hexC (b / 16), hexC (b % 16)]).map byteV = l.map byteV ++ [.int .u8 92, .int .u8 120, .int .u8 (hexC (b / 16) : Nat), .int .u8 (hexC (b % 16) : Nat)] := by simp [byteV]
      all_goals rw [e1, e2]
      all_goals exact hown1
    · have d6 : ¬ (32 : Int) ≤ (b : Int) := by omega

      go_enter Tryd.func45, Tryd.ntmps45
      go_wp2
      go_region_law (first | (refine step_append_lies _ (by rfl) _ _ _ (by rfl) n₀ 5 i0 (.int .u8 0) 1 1 Tryd.underlying22 hi hz0 hz1 hz2 rfl (by decide) _ _ _ (by rfl) (hown.alloc (.cells #[.int .u8 92, .int .u8 120, .int .u8 (hexC (b / 16) : Nat), .int .u8 (hexC (b % 16) : Nat)] 5)) ⟨w.heap.size, 0, none⟩ 4 4 [.int .u8 92, .int .u8 120, .int .u8 (hexC (b / 16) : Nat), .int .u8 (hexC (b % 16) : Nat)] (by rfl) (by rfl) (World.news_of_block (cs := #[.int .u8 92, .int .u8 120, .int .u8 (hexC (b / 16) : Nat), .int .u8 (hexC (b % 16) : Nat)]) (Blk.new w 5 _)) (by simp [Value.oneCell']) (by omega) (by unfold maxLen; omega) (by omega) (by simp; omega) _ rfl ?_; intro g cap w1 hown1 hgrow _ _))
      all_goals go_wp2
      all_goals go_ret
      all_goals obtain ⟨k1, k2⟩ := own_fin (w1 := (w.alloc _).drew) (hown.alloc _) ((Lib.OthersKept.refl 5 none w).alloc _).drew ((Below.refl n₀ w).alloc hn _).drew hn hgrow
      all_goals refine ⟨_, rfl, ?_, k1, k2⟩
      all_goals have e1 : (l ++ [92, 120, hexC (b / 16), hexC (b % 16)]).length = l.length + 4 := by simp
      all_goals have e2 : (l ++ [92, 120, hexC (b / 16), hexC (b % 16)]).map byteV = l.map byteV ++ [.int .u8 92, .int .u8 120, .int .u8 (hexC (b / 16) : Nat), .int .u8 (hexC (b % 16) : Nat)] := by simp [byteV]
      all_goals rw [e1, e2]
      all_goals exact hown1
end Go.Proofs.YtdodkbpagbblmaaDoor
