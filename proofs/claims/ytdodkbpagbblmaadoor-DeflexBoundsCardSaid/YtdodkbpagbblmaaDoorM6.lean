import Derived.Lib.ItoaLen
import Derived.Test.YtdodkbpagbblmaaDoorM1
import Derived.Test.YtdodkbpagbblmaaDoorM4
import Derived.Test.YtdodkbpagbblmaaDoorM5
section
namespace Go.Proofs.YtdodkbpagbblmaaDoor
open Go Go.RowKit

/-- A byte as it stands between two quotes. -/
def quoteB (b : Nat) : List Nat :=
  if b = 10 then [92, 110] else if b = 9 then [92, 116] else if b = 13 then [92, 114] else if b = 34 ∨ b = 92 then [92, b] else if 32 ≤ b ∧ b ≤ 126 then [b] else [92, 120, hexC (b / 16), hexC (b % 16)]
theorem quoteB_len (b : Nat) : (quoteB b).length ≤ 4 := by
  unfold quoteB
  repeat' split
  all_goals simp
theorem quoteB_pos (b : Nat) : 1 ≤ (quoteB b).length := by
  unfold quoteB
  repeat' split
  all_goals simp
theorem quoteB_lt (b : Nat) (hb : b < 256) : ∀ x ∈ quoteB b, x < 256 := by
  have hx : ∀ n, n < 16 → hexC n < 256 := fun n h => by unfold hexC; split <;> omega
  unfold quoteB
  repeat' split
  all_goals simp
  all_goals (try omega)
  exact ⟨hx _ (by omega), hx _ (by omega)⟩

set_option maxRecDepth 100000 in
set_option maxHeartbeats 4000000 in
theorem quoteB_any (v : Value) (l : List Nat) (b : Nat) (hb : b < 256) (n₀ : Nat) (w : World) (hown : w.ownsRow n₀ 5 1 v l.length (l.map byteV)) (hn : n₀ ≤ w.heap.size) (hl : l.length ≤ 1000000000) :
    Calls Tryd.prog 45 #[v, .int .u8 b] w (bytePost (l ++ quoteB b) n₀ w) := by
  obtain ⟨i0, hi, hz0, hz1, hz2⟩ := info_parts Tryd.info5
  by_cases c1 : b = 10
  · have hE : quoteB b = [92, 110] := by subst c1; rfl
    rw [hE]
    subst c1
    clear hE
    go_enter Tryd.func45, Tryd.ntmps45
    go_wp2_with (at_builtin; refine Lib.wpList_append_own_string _ rfl _ _ 22 9 rfl n₀ 5 i0 Tryd.underlying22 Tryd.underlying9 hi hz0 hz1 hz2 _ _ _ rfl hown ⟨#[92, 110]⟩ rfl (by show l.length + 2 ≤ maxLen; unfold maxLen; omega) (by show l.length + 2 ≤ _; omega) hn ?_; intro v' w1 hown1 hgrow _)
    go_ret
    obtain ⟨k1, k2⟩ := own_fin hown (Lib.OthersKept.refl 5 none w) (Below.refl n₀ w) hn hgrow
    refine ⟨v', rfl, ?_, k1, k2⟩
    have e1 : (l ++ [92, 110]).length = l.length + 2 := by simp
    have e2 : (l ++ [92, 110]).map byteV = l.map byteV ++ Lib.strCells ⟨#[92, 110]⟩ := by simp [byteV, Lib.strCells]
    rw [e1, e2]; exact hown1
  by_cases c2 : b = 9
  · have hE : quoteB b = [92, 116] := by subst c2; rfl
    rw [hE]
    subst c2
    clear hE
    go_enter Tryd.func45, Tryd.ntmps45
    go_wp2_with (at_builtin; refine Lib.wpList_append_own_string _ rfl _ _ 22 9 rfl n₀ 5 i0 Tryd.underlying22 Tryd.underlying9 hi hz0 hz1 hz2 _ _ _ rfl hown ⟨#[92, 116]⟩ rfl (by show l.length + 2 ≤ maxLen; unfold maxLen; omega) (by show l.length + 2 ≤ _; omega) hn ?_; intro v' w1 hown1 hgrow _)
    go_ret
    obtain ⟨k1, k2⟩ := own_fin hown (Lib.OthersKept.refl 5 none w) (Below.refl n₀ w) hn hgrow
    refine ⟨v', rfl, ?_, k1, k2⟩
    have e1 : (l ++ [92, 116]).length = l.length + 2 := by simp
    have e2 : (l ++ [92, 116]).map byteV = l.map byteV ++ Lib.strCells ⟨#[92, 116]⟩ := by simp [byteV, Lib.strCells]
    rw [e1, e2]; exact hown1
  by_cases c3 : b = 13
  · have hE : quoteB b = [92, 114] := by subst c3; rfl
    rw [hE]
    subst c3
    clear hE
    go_enter Tryd.func45, Tryd.ntmps45
    go_wp2_with (at_builtin; refine Lib.wpList_append_own_string _ rfl _ _ 22 9 rfl n₀ 5 i0 Tryd.underlying22 Tryd.underlying9 hi hz0 hz1 hz2 _ _ _ rfl hown ⟨#[92, 114]⟩ rfl (by show l.length + 2 ≤ maxLen; unfold maxLen; omega) (by show l.length + 2 ≤ _; omega) hn ?_; intro v' w1 hown1 hgrow _)
    go_ret
    obtain ⟨k1, k2⟩ := own_fin hown (Lib.OthersKept.refl 5 none w) (Below.refl n₀ w) hn hgrow
    refine ⟨v', rfl, ?_, k1, k2⟩
    have e1 : (l ++ [92, 114]).length = l.length + 2 := by simp
    have e2 : (l ++ [92, 114]).map byteV = l.map byteV ++ Lib.strCells ⟨#[92, 114]⟩ := by simp [byteV, Lib.strCells]
    rw [e1, e2]; exact hown1
  by_cases c4 : b = 34 ∨ b = 92
  · have hE : quoteB b = [92, b] := by unfold quoteB; rw [if_neg c1, if_neg c2, if_neg c3, if_pos c4]
    rw [hE]
    clear hE
    rcases c4 with c4 | c4
    · subst c4
      go_enter Tryd.func45, Tryd.ntmps45
      go_wp2_with (at_builtin; refine wpList_append_own _ rfl _ _ 22 rfl n₀ 5 i0 (.int .u8 0) 1 1 Tryd.underlying22 hi hz0 hz1 hz2 rfl (by decide) _ _ _ rfl (hown.alloc _) ⟨w.heap.size, 0, none⟩ 2 2 [.int .u8 92, .int .u8 34] rfl rfl (cell_two_new _ _ _ _) (by simp [Value.oneCell']) (by unfold maxLen; omega) (by omega) (by simp; omega) ?_; intro v' w1 hown1 hgrow _)
      go_ret
      obtain ⟨k1, k2⟩ := own_fin (hown.alloc _) ((Lib.OthersKept.refl 5 none w).alloc _) ((Below.refl n₀ w).alloc hn _) hn hgrow
      refine ⟨v', rfl, ?_, k1, k2⟩
      have e1 : (l ++ [92, 34]).length = l.length + 2 := by simp
      have e2 : (l ++ [92, 34]).map byteV = l.map byteV ++ [.int .u8 92, .int .u8 34] := by simp [byteV]
      rw [e1, e2]; exact hown1
    · subst c4
      go_enter Tryd.func45, Tryd.ntmps45
      go_wp2_with (at_builtin; refine wpList_append_own _ rfl _ _ 22 rfl n₀ 5 i0 (.int .u8 0) 1 1 Tryd.underlying22 hi hz0 hz1 hz2 rfl (by decide) _ _ _ rfl (hown.alloc _) ⟨w.heap.size, 0, none⟩ 2 2 [.int .u8 92, .int .u8 92] rfl rfl (cell_two_new _ _ _ _) (by simp [Value.oneCell']) (by unfold maxLen; omega) (by omega) (by simp; omega) ?_; intro v' w1 hown1 hgrow _)
      go_ret
      obtain ⟨k1, k2⟩ := own_fin (hown.alloc _) ((Lib.OthersKept.refl 5 none w).alloc _) ((Below.refl n₀ w).alloc hn _) hn hgrow
      refine ⟨v', rfl, ?_, k1, k2⟩
      have e1 : (l ++ [92, 92]).length = l.length + 2 := by simp
      have e2 : (l ++ [92, 92]).map byteV = l.map byteV ++ [.int .u8 92, .int .u8 92] := by simp [byteV]
      rw [e1, e2]; exact hown1
  have c4' : ¬ b = 34 := fun h => c4 (.inl h)
  have c5' : ¬ b = 92 := fun h => c4 (.inr h)
  have d1 : ¬ (b : Int) = 10 := by omega
  have d2 : ¬ (b : Int) = 9 := by omega
  have d3 : ¬ (b : Int) = 13 := by omega
  have d4 : ((b : Int) == 34) = false := by rw [beq_eq_false_iff_ne]; omega
  have d5 : ((b : Int) == 92) = false := by rw [beq_eq_false_iff_ne]; omega
  by_cases c6 : 32 ≤ b ∧ b ≤ 126
  · have hE : quoteB b = [b] := by unfold quoteB; rw [if_neg c1, if_neg c2, if_neg c3, if_neg c4, if_pos c6]
    rw [hE]
    clear hE c4
    obtain ⟨c6, c7⟩ := c6
    have d6 : (32 : Int) ≤ (b : Int) := by omega
    have d7 : (b : Int) ≤ 126 := by omega

    go_enter Tryd.func45, Tryd.ntmps45
    go_wp2_with (at_builtin; refine wpList_append_own _ rfl _ _ 22 rfl n₀ 5 i0 (.int .u8 0) 1 1 Tryd.underlying22 hi hz0 hz1 hz2 rfl (by decide) _ _ _ rfl (hown.alloc _) ⟨w.heap.size, 0, none⟩ 1 1 [.int .u8 b] rfl rfl (cell_one_new _ _ _) (by simp [Value.oneCell']) (by unfold maxLen; omega) (by omega) (by simp; omega) ?_; intro v' w1 hown1 hgrow _)
    go_ret
    obtain ⟨k1, k2⟩ := own_fin (hown.alloc _) ((Lib.OthersKept.refl 5 none w).alloc _) ((Below.refl n₀ w).alloc hn _) hn hgrow
    refine ⟨v', rfl, ?_, k1, k2⟩
    have e1 : (l ++ [b]).length = l.length + 1 := by simp
    have e2 : (l ++ [b]).map byteV = l.map byteV ++ [.int .u8 b] := by simp [byteV]
    rw [e1, e2]; exact hown1
  · have hE : quoteB b = [92, 120, hexC (b / 16), hexC (b % 16)] := by unfold quoteB; rw [if_neg c1, if_neg c2, if_neg c3, if_neg c4, if_neg c6]
    rw [hE]
    clear hE c4
    have hI1 : ∀ w', (Instr.index 9 (.string ⟨#[48, 49, 50, 51, 52, 53, 54, 55, 56, 57, 97, 98, 99, 100, 101, 102]⟩) (.int .u8 ((b : Int) / 16))).run Tryd.prog w' = .ok (.int .u8 (hexC (b / 16) : Nat)) w' := by
      rw [show ((b : Int) / 16) = ((b / 16 : Nat) : Int) by omega]; exact hex_ix (b / 16) (by omega)
    have hI2 : ∀ w', (Instr.index 9 (.string ⟨#[48, 49, 50, 51, 52, 53, 54, 55, 56, 57, 97, 98, 99, 100, 101, 102]⟩) (.int .u8 ((b : Int) % 16))).run Tryd.prog w' = .ok (.int .u8 (hexC (b % 16) : Nat)) w' := by
      rw [show ((b : Int) % 16) = ((b % 16 : Nat) : Int) by omega]; exact hex_ix (b % 16) (by omega)
    have hb15 : bits .and .u8 (b : Int) 15 = (b : Int) % 16 := by
      have h := u8_and_nat b 15 hb (by omega)
      rw [and15] at h
      exact h.trans (by omega)
    by_cases c7 : 32 ≤ b
    · have c8 : ¬ b ≤ 126 := fun h => c6 ⟨c7, h⟩
      have d6 : (32 : Int) ≤ (b : Int) := by omega
      have d7 : ¬ (b : Int) ≤ 126 := by omega

      go_enter Tryd.func45, Tryd.ntmps45
      go_wp2
      go_region_law (first | (refine step_append_lies _ (by rfl) _ _ _ (by rfl) n₀ 5 i0 (.int .u8 0) 1 1 Tryd.underlying22 hi hz0 hz1 hz2 rfl (by decide) _ _ _ (by rfl) (hown.alloc (.cells #[.int .u8 92, .int .u8 120, .int .u8 (hexC (b / 16) : Nat), .int .u8 (hexC (b % 16) : Nat)] 5)) ⟨w.heap.size, 0, none⟩ 4 4 [.int .u8 92, .int .u8 120, .int .u8 (hexC (b / 16) : Nat), .int .u8 (hexC (b % 16) : Nat)] (by rfl) (by rfl) (World.news_of_block (cs := #[.int .u8 92, .int .u8 120, .int .u8 (hexC (b / 16) : Nat), .int .u8 (hexC (b % 16) : Nat)]) (Blk.new w 5 _)) (by simp [Value.oneCell']) (by omega) (by unfold maxLen; omega) (by omega) (by simp; omega) _ rfl ?_; intro g cap w1 hown1 hgrow _ _))
      all_goals go_wp2
      all_goals go_ret
      all_goals obtain ⟨k1, k2⟩ := own_fin (w1 := (w.alloc _).drew) (hown.alloc _) ((Lib.OthersKept.refl 5 none w).alloc _).drew ((Below.refl n₀ w).alloc hn _).drew hn hgrow
      all_goals refine ⟨_, rfl, ?_, k1, k2⟩
      all_goals have e1 : (l ++ [92, 120, hexC (b / 16), hexC (b % 16)]).length = l.length + 4 := by simp
      all_goals have e2 : (l ++ [92, 120, hexC (b / 16), hexC (b % 16)]).map byteV = l.map byteV ++ [.int .u8 92, .int .u8 120, .int .u8 (hexC (b / 16) : Nat), .int .u8 (hexC (b % 16) : Nat)] := by simp [byteV]
      all_goals rw [e1, e2]
      all_goals exact hown1
    · have d6 : ¬ (32 : Int) ≤ (b : Int) := by omega

      go_enter Tryd.func45, Tryd.ntmps45
      go_wp2
      go_region_law (first | (refine step_append_lies _ (by rfl) _ _ _ (by rfl) n₀ 5 i0 (.int .u8 0) 1 1 Tryd.underlying22 hi hz0 hz1 hz2 rfl (by decide) _ _ _ (by rfl) (hown.alloc (.cells #[.int .u8 92, .int .u8 120, .int .u8 (hexC (b / 16) : Nat), .int .u8 (hexC (b % 16) : Nat)] 5)) ⟨w.heap.size, 0, none⟩ 4 4 [.int .u8 92, .int .u8 120, .int .u8 (hexC (b / 16) : Nat), .int .u8 (hexC (b % 16) : Nat)] (by rfl) (by rfl) (World.news_of_block (cs := #[.int .u8 92, .int .u8 120, .int .u8 (hexC (b / 16) : Nat), .int .u8 (hexC (b % 16) : Nat)]) (Blk.new w 5 _)) (by simp [Value.oneCell']) (by omega) (by unfold maxLen; omega) (by omega) (by simp; omega) _ rfl ?_; intro g cap w1 hown1 hgrow _ _))
      all_goals go_wp2
      all_goals go_ret
      all_goals obtain ⟨k1, k2⟩ := own_fin (w1 := (w.alloc _).drew) (hown.alloc _) ((Lib.OthersKept.refl 5 none w).alloc _).drew ((Below.refl n₀ w).alloc hn _).drew hn hgrow
      all_goals refine ⟨_, rfl, ?_, k1, k2⟩
      all_goals have e1 : (l ++ [92, 120, hexC (b / 16), hexC (b % 16)]).length = l.length + 4 := by simp
      all_goals have e2 : (l ++ [92, 120, hexC (b / 16), hexC (b % 16)]).map byteV = l.map byteV ++ [.int .u8 92, .int .u8 120, .int .u8 (hexC (b / 16) : Nat), .int .u8 (hexC (b % 16) : Nat)] := by simp [byteV]
      all_goals rw [e1, e2]
      all_goals exact hown1
end Go.Proofs.YtdodkbpagbblmaaDoor
end
section
namespace Go.Proofs.YtdodkbpagbblmaaDoor
open Go Go.RowKit

/-- Bytes as they stand between two quotes. -/
def quoteL (l : List UInt8) : List Nat := l.flatMap fun c => quoteB c.toNat
/-- A text in quotes. -/
def quoteF (l : List UInt8) : List Nat := [34] ++ quoteL l ++ [34]
theorem quoteL_len (l : List UInt8) : (quoteL l).length ≤ 4 * l.length := by
  induction l with
  | nil => simp [quoteL]
  | cons c l ih =>
    have := quoteB_len c.toNat
    simp [quoteL] at ih ⊢
    omega
theorem quoteL_snoc (l : List UInt8) (c : UInt8) : quoteL (l ++ [c]) = quoteL l ++ quoteB c.toNat := by simp [quoteL]
theorem quoteF_len (l : List UInt8) : (quoteF l).length ≤ 4 * l.length + 2 := by
  have := quoteL_len l
  unfold quoteF
  simp
  omega
theorem take_at (s : ByteArray) (k : Nat) (h : k < s.size) : s.data.toList.take (k + 1) = s.data.toList.take k ++ [s[k]] := by
  have h' : k < s.data.toList.length := by rw [← Lib.size_eq]; exact h
  rw [List.take_succ_eq_append_getElem h']
  congr 1

set_option maxRecDepth 100000 in
set_option maxHeartbeats 4000000 in
theorem appendQuoted_any (v : Value) (l : List Nat) (s : ByteArray) (hs : s.size ≤ 1048576) (n₀ : Nat) (w : World) (hown : w.ownsRow n₀ 5 1 v l.length (l.map byteV)) (hn : n₀ ≤ w.heap.size) (hl : l.length ≤ 10000000) :
    Calls Tryd.prog 31 #[v, .string s] w (bytePost (l ++ quoteF s.data.toList) n₀ w) := by
  obtain ⟨i0, hi, hz0, hz1, hz2⟩ := info_parts Tryd.info5
  go_enter Tryd.func31, Tryd.ntmps31
  go_wp2_with (at_builtin; refine wpList_append_own _ rfl _ _ 22 rfl n₀ 5 i0 (.int .u8 0) 1 1 Tryd.underlying22 hi hz0 hz1 hz2 rfl (by decide) _ _ _ rfl (hown.alloc _) ⟨w.heap.size, 0, none⟩ 1 1 [.int .u8 34] rfl rfl (cell_one_new _ _ _) (by simp [Value.oneCell']) (by unfold maxLen; omega) (by omega) (by simp; omega) ?_; intro v1 w1 hown1 hgrow _)
  have hf := own_fin (hown.alloc (.cells #[.int .u8 34] 5)) ((Lib.OthersKept.refl 5 none w).alloc _) ((Below.refl n₀ w).alloc hn _) hn hgrow
  have hO1 : Hid (w1.ownsRow n₀ 5 1 v1 (l ++ [34] ++ quoteL (s.data.toList.take 0)).length ((l ++ [34] ++ quoteL (s.data.toList.take 0)).map byteV)) := by
    refine Lib.hid ?_
    have e1 : (l ++ [34] ++ quoteL (s.data.toList.take 0)).length = l.length + 1 := by simp [quoteL]
    have e2 : (l ++ [34] ++ quoteL (s.data.toList.take 0)).map byteV = l.map byteV ++ [.int .u8 34] := by simp [byteV, quoteL]
    rw [e1, e2]; exact hown1
  have hK1 := Lib.hid hf.1
  have hB1 := Lib.hid hf.2
  clear hown1 hf hgrow hown
  go_wp2
  go_loopw [0, 11] (fun q p wr => ∃ (k : Nat), p = .int .i64 k ∧ k ≤ s.size ∧ Hid (wr.ownsRow n₀ 5 1 q (l ++ [34] ++ quoteL (s.data.toList.take k)).length ((l ++ [34] ++ quoteL (s.data.toList.take k)).map byteV)) ∧ Hid (Lib.OthersKept 5 none w wr) ∧ Hid (Below n₀ w wr))
    (fun _ p _ => s.size - (intOf p).toNat)
  case atStart => exact ⟨0, rfl, Nat.zero_le _, hO1, hK1, hB1⟩
  case round =>
    clear hO1 hK1 hB1
    obtain ⟨k, rfl, hk, hO, hK, hB⟩ := hrel
    have hszr : n₀ ≤ wr.heap.size := Nat.le_trans hn hB.out.size
    have hll : (l ++ [34] ++ quoteL (s.data.toList.take k)).length ≤ 20000000 := by
      have h1 := quoteL_len (s.data.toList.take k)
      rw [List.length_take, ← Lib.size_eq] at h1
      simp only [List.length_append, List.length_cons, List.length_nil]
      omega
    by_cases hlt : k < s.size
    · obtain ⟨b, hb⟩ : ∃ b, b = (s[k]'hlt).toNat := ⟨_, rfl⟩
      have hbl : b < 256 := by rw [hb]; exact (s[k]'hlt).toNat_lt
      have hib : ∀ h, (s[k]'h).toNat = b := fun h => hb.symm
      have HL : Hid (l ++ [34] ++ quoteL (s.data.toList.take k) ++ quoteB b = l ++ [34] ++ quoteL (s.data.toList.take (k + 1))) := by
        refine Lib.hid ?_
        rw [take_at s k hlt, quoteL_snoc, ← hb, List.append_assoc (l ++ [34])]
      have HC := Lib.hid (quoteB_any u0 (l ++ [34] ++ quoteL (s.data.toList.take k)) b hbl n₀ wr hO.out hszr (by omega))
      rw [HL.out] at HC
      clear hb HL hO
      go_wp2_with (go_at_call 45; refine HC.out.mono ?_; rintro e w3 ⟨v3, rfl, hown3, hk3, hB3⟩)
      have hO3 := Lib.hid hown3
      have hK3 := Lib.hid (hK.out.trans hk3)
      have hB3' := Lib.hid (hB.out.trans hB3)
      clear hown3 hk3 hB3 HC hK hB
      go_wp2
      go_roundw
      case rel => exact ⟨k + 1, by go_num, by omega, hO3, hK3, hB3'⟩
      case measure => simp [intOf]; omega
    · obtain rfl : k = s.size := by omega
      rw [show s.data.toList.take s.size = s.data.toList from by rw [Lib.size_eq, List.take_length]] at hO hll
      obtain ⟨L, hL⟩ : ∃ L, L = l ++ [34] ++ quoteL s.data.toList := ⟨_, rfl⟩
      have HE : Hid (l ++ quoteF s.data.toList = L ++ [34]) := Lib.hid (by rw [hL]; simp [quoteF])
      rw [← hL] at hO hll
      clear hL
      go_wp2_with (at_builtin; refine wpList_append_own _ rfl _ _ 22 rfl n₀ 5 i0 (.int .u8 0) 1 1 Tryd.underlying22 hi hz0 hz1 hz2 rfl (by decide) _ _ _ rfl (hO.out.alloc _) ⟨wr.heap.size, 0, none⟩ 1 1 [.int .u8 34] rfl rfl (cell_one_new _ _ _) (by simp [Value.oneCell']) (by unfold maxLen; omega) (by omega) (by simp; omega) ?_; intro v4 w4 hown4 hgrow4 _)
      have hf4 := own_fin (hO.out.alloc _) ((Lib.OthersKept.refl 5 none wr).alloc _) ((Below.refl n₀ wr).alloc hszr _) hszr hgrow4
      go_ret
      refine ⟨v4, rfl, ?_, hK.out.trans hf4.1, hB.out.trans hf4.2⟩
      have e1 : (L ++ [34]).length = L.length + 1 := by simp
      have e2 : (L ++ [34]).map byteV = L.map byteV ++ [.int .u8 34] := by simp [byteV]
      rw [HE.out, e1, e2]; exact hown4
end Go.Proofs.YtdodkbpagbblmaaDoor
end
section
namespace Go.Proofs.YtdodkbpagbblmaaDoor
open Go Go.RowKit

theorem GlobD.above {w w' : World} {n : Nat} (h : GlobD w) (hn : 4 < n) (hB : Below n w w') : GlobD w' :=
  h.at5 (fun i hi => hB.block i (by omega)) hB.size

theorem byteT_small (b : Nat) (hb : b < 256) : ∀ x ∈ byteT b, x < 256 := by
  have hx : ∀ n, n < 16 → hexC n < 256 := fun n h => by unfold hexC; split <;> omega
  unfold byteT
  repeat' split
  all_goals simp
  all_goals (try omega)
  exact ⟨hx _ (by omega), hx _ (by omega)⟩
theorem rangeT_small (r : Nat × Nat) (h1 : r.1 < 256) (h2 : r.2 < 256) : ∀ x ∈ rangeT r, x < 256 := by
  intro x hx
  unfold rangeT at hx
  split at hx
  · exact byteT_small _ h1 x hx
  · split at hx
    · rw [List.mem_append, List.mem_append] at hx
      rcases hx with (hx | hx) | hx
      · exact byteT_small _ h1 x hx
      · simp at hx; omega
      · exact byteT_small _ h2 x hx
    · rw [List.mem_append] at hx
      rcases hx with hx | hx
      · exact byteT_small _ h1 x hx
      · exact byteT_small _ h2 x hx
theorem rangesT_small (rs : List (Nat × Nat)) (h : SmallR rs) : ∀ x ∈ rangesT rs, x < 256 := by
  intro x hx
  unfold rangesT at hx
  rw [List.mem_flatMap] at hx
  obtain ⟨r, hr, hx⟩ := hx
  exact rangeT_small r (h r hr).1 (h r hr).2 x hx
theorem textS_small (s : BS) : ∀ x ∈ textS s, x < 256 := by
  intro x hx
  have h : ∀ s : BS, ∀ x ∈ rangesT (rngs (bytesL s)), x < 256 := fun s => rangesT_small _ (rngs_small _ fun y hy => ((mem_bytesL s y).1 hy).1)
  unfold textS at hx
  split at hx
  · rw [List.mem_append, List.mem_append] at hx
    rcases hx with (hx | hx) | hx
    · simp at hx; omega
    · exact h _ x hx
    · simp at hx; omega
  · rw [List.mem_append, List.mem_append] at hx
    rcases hx with (hx | hx) | hx
    · simp at hx; omega
    · exact h _ x hx
    · simp at hx; omega
theorem textS_len (s : BS) : (textS s).length ≤ 3000 := by
  have h1 := rangesT_len (rngs (bytesL s))
  have h2 := rangesT_len (rngs (bytesL (~~~s)))
  have h3 := rngs_length (bytesL s)
  have h4 := rngs_length (bytesL (~~~s))
  have h5 := length_bytesL s
  have h6 := length_bytesL (~~~s)
  unfold textS
  split <;> simp <;> omega
theorem bytesStr_list (l : List Nat) : (bytesStr l).data.toList = l.map UInt8.ofNat := by
  unfold bytesStr
  rw [strOfNums_data, List.map_map]
  rfl
theorem bytesStr_size (l : List Nat) : (bytesStr l).size = l.length := by
  rw [Lib.size_eq, bytesStr_list, List.length_map]
theorem cells_bytesStr (l : List Nat) (h : ∀ x ∈ l, x < 256) : Lib.strCells (bytesStr l) = l.map byteV := by
  unfold Lib.strCells
  rw [bytesStr_list, List.map_map]
  refine List.map_congr_left fun x hx => ?_
  have := h x hx
  simp [byteV, UInt8.toNat_ofNat', Nat.mod_eq_of_lt this]

/-- A word's text. -/
def wordF (x : Wd) : List Nat :=
  if x.kind = 2 then quoteF x.txt.data.toList else if x.kind = 3 then textS x.set else if x.kind = 4 then (Lib.itoa x.num).map UInt8.toNat else x.txt.data.toList.map UInt8.toNat
theorem strCells_nat (s : ByteArray) : Lib.strCells s = (s.data.toList.map UInt8.toNat).map byteV := by
  unfold Lib.strCells
  rw [List.map_map]
  rfl
theorem byteCells_nat (l : List UInt8) : Lib.byteCells l = (l.map UInt8.toNat).map byteV := by
  unfold Lib.byteCells
  rw [List.map_map]
  rfl

set_option maxRecDepth 100000 in
set_option maxHeartbeats 4000000 in
theorem appendWord_any (v : Value) (l : List Nat) (x : Wd) (a : Int) (ht : x.txt.size ≤ 1048576) (hm0 : -9223372036854775808 ≤ x.num) (hm1 : x.num ≤ 9223372036854775807) (n₀ : Nat) (w : World) (hG : GlobD w) (h4 : 4 < n₀) (hown : w.ownsRow n₀ 5 1 v l.length (l.map byteV)) (hn : n₀ ≤ w.heap.size) (hl : l.length ≤ 9000000) :
    Calls Tryd.prog 16 #[v, wordV x a] w (bytePost (l ++ wordF x) n₀ w) := by
  obtain ⟨i0, hi, hz0, hz1, hz2⟩ := info_parts Tryd.info5
  obtain ⟨kd, tx, st, nm⟩ := x
  dsimp only at ht hm0 hm1
  have hB0 : Hid (Below n₀ w (w.alloc (.cells (wordC ⟨kd, tx, st, nm⟩ a) 38))) := (Below.refl n₀ w).alloc hn _
  have hK0 : Hid (Lib.OthersKept 5 none w (w.alloc (.cells (wordC ⟨kd, tx, st, nm⟩ a) 38))) := (Lib.OthersKept.refl 5 none w).alloc _
  have hO0 : Hid ((w.alloc (.cells (wordC ⟨kd, tx, st, nm⟩ a) 38)).ownsRow n₀ 5 1 v l.length (l.map byteV)) := hown.alloc _
  have hG0 : Hid (GlobD (w.alloc (.cells (wordC ⟨kd, tx, st, nm⟩ a) 38))) := hG.above h4 hB0.out
  have hsz : n₀ ≤ (w.alloc (.cells (wordC ⟨kd, tx, st, nm⟩ a) 38)).heap.size := Nat.le_trans hn hB0.out.size
  have hwk : wordF ⟨kd, tx, st, nm⟩ = if kd = 2 then quoteF tx.data.toList else if kd = 3 then textS st else if kd = 4 then (Lib.itoa nm).map UInt8.toNat else tx.data.toList.map UInt8.toNat := rfl
  have HF := Lib.hid hwk
  clear hwk hown hG
  by_cases c1 : kd = 2
  · have HX : Hid (wordF ⟨kd, tx, st, nm⟩ = quoteF tx.data.toList) := Lib.hid (by rw [HF.out, if_pos c1])
    have HC := Lib.hid (appendQuoted_any v l tx ht n₀ _ hO0.out hsz (by omega))
    rw [← HX.out] at HC
    generalize wordF ⟨kd, tx, st, nm⟩ = TX at HC ⊢
    clear HF HX
    subst c1
    unfold wordC at *
    unfold wordV wordC
    go_enter Tryd.func16, Tryd.ntmps16
    go_wp2_with (go_at_call 31; refine HC.out.mono ?_; rintro e w3 ⟨v3, rfl, hown3, hk3, hB3⟩)
    go_ret
    exact ⟨v3, rfl, hown3, hK0.out.trans hk3, hB0.out.trans hB3⟩
  · by_cases c2 : kd = 3
    · have HX : Hid (wordF ⟨kd, tx, st, nm⟩ = textS st) := Lib.hid (by rw [HF.out, if_neg c1, if_pos c2])
      have HC := Lib.hid (text_any st _ hG0.out.base)
      have hlen := textS_len st
      have HS := Lib.hid (textS_small st)
      clear HF c1
      generalize wordF ⟨kd, tx, st, nm⟩ = TX at HX ⊢
      generalize textS st = M at HC hlen HS HX
      subst c2
      unfold wordC at *
      unfold wordV wordC
      unfold vset at HC
      go_enter Tryd.func16, Tryd.ntmps16
      go_wp2_with (first
        | (go_at_call 32; refine HC.out.mono ?_; rintro e w3 ⟨rfl, hB3⟩; have hO3 := own_below hO0.out hB3 (Nat.le_refl _); have hsz3 := Nat.le_trans hsz hB3.size)
        | (at_builtin; refine Lib.wpList_append_own_string _ rfl _ _ 22 9 rfl n₀ 5 i0 Tryd.underlying22 Tryd.underlying9 hi hz0 hz1 hz2 _ _ _ rfl hO3 (bytesStr M) rfl (by rw [bytesStr_size]; unfold maxLen; omega) (by rw [bytesStr_size]; omega) hsz3 ?_; intro v' w1 hown1 hgrow _))
      have hf4 := own_fin hO3 (hK0.out.below hB3) (hB0.out.trans (hB3.mono hsz)) hn hgrow
      go_ret
      refine ⟨v', rfl, ?_, hf4.1, hf4.2⟩
      rw [bytesStr_size, cells_bytesStr M HS.out] at hown1
      rw [HX.out, List.length_append, List.map_append]
      exact hown1
    · by_cases c3 : kd = 4
      · have HX : Hid (wordF ⟨kd, tx, st, nm⟩ = (Lib.itoa nm).map UInt8.toNat) := Lib.hid (by rw [HF.out, if_neg c1, if_neg c2, if_pos c3])
        have HC := Lib.hid (Tryd.strconv_AppendInt_10 n₀ l.length nm hm0 hm1 v (l.map byteV) _ hO0.out hsz (by omega) (fun w' hB => (hG0.out.above h4 hB).pow))
        clear HF c1 c2
        generalize wordF ⟨kd, tx, st, nm⟩ = TX at HX ⊢
        rw [byteCells_nat] at HC
        have hM : (Lib.itoa nm).length = ((Lib.itoa nm).map UInt8.toNat).length := by rw [List.length_map]
        rw [hM] at HC
        generalize (Lib.itoa nm).map UInt8.toNat = M at HC HX
        clear hM
        subst c3
        unfold wordC at *
        unfold wordV wordC
        go_enter Tryd.func16, Tryd.ntmps16
        go_wp2_with (go_at_call 33; refine HC.out.mono ?_; rintro e w3 ⟨v3, rfl, hown3, hB3, hk3⟩)
        go_ret
        refine ⟨v3, rfl, ?_, hK0.out.trans hk3, hB0.out.trans hB3⟩
        rw [HX.out, List.length_append, List.map_append]
        exact hown3
      · have HX : Hid (wordF ⟨kd, tx, st, nm⟩ = tx.data.toList.map UInt8.toNat) := Lib.hid (by rw [HF.out, if_neg c1, if_neg c2, if_neg c3])
        clear HF
        generalize wordF ⟨kd, tx, st, nm⟩ = TX at HX ⊢
        unfold wordC at *
        unfold wordV wordC
        go_enter Tryd.func16, Tryd.ntmps16
        go_wp2_with (at_builtin; refine Lib.wpList_append_own_string _ rfl _ _ 22 9 rfl n₀ 5 i0 Tryd.underlying22 Tryd.underlying9 hi hz0 hz1 hz2 _ _ _ rfl hO0.out tx rfl (by unfold maxLen; omega) (by omega) hsz ?_; intro v' w1 hown1 hgrow _)
        have hf4 := own_fin hO0.out hK0.out hB0.out hn hgrow
        go_ret
        refine ⟨v', rfl, ?_, hf4.1, hf4.2⟩
        rw [strCells_nat] at hown1
        rw [HX.out, List.length_append, List.map_append, List.length_map, ← Lib.size_eq]
        exact hown1
end Go.Proofs.YtdodkbpagbblmaaDoor
end
section
namespace Go.Proofs.YtdodkbpagbblmaaDoor
open Go Go.RowKit

theorem part27 (a b c d : Int) (w : World) : (part 34 #[.int .u64 a, .int .u64 b, .int .u64 c, .int .u64 d] 0).run Tryd.prog w = .ok (.int .u64 a) w := by kernel_rfl
theorem part27_1 (a b c d : Int) (w : World) : (part 34 #[.int .u64 a, .int .u64 b, .int .u64 c, .int .u64 d] 1).run Tryd.prog w = .ok (.int .u64 b) w := by kernel_rfl
theorem part27_2 (a b c d : Int) (w : World) : (part 34 #[.int .u64 a, .int .u64 b, .int .u64 c, .int .u64 d] 2).run Tryd.prog w = .ok (.int .u64 c) w := by kernel_rfl
theorem part27_3 (a b c d : Int) (w : World) : (part 34 #[.int .u64 a, .int .u64 b, .int .u64 c, .int .u64 d] 3).run Tryd.prog w = .ok (.int .u64 d) w := by kernel_rfl
theorem size27 (w : World) : (sizeOf 34).run Tryd.prog w = .ok 1 w := by kernel_rfl

theorem eq_words (n : Nat) (a b c d a' b' c' d' : Int) (w : World) : (Op.equalIn (n + 2) 36 (.agg #[.int .u64 a, .int .u64 b, .int .u64 c, .int .u64 d]) (.agg #[.int .u64 a', .int .u64 b', .int .u64 c', .int .u64 d'])).run Tryd.prog w =
    .ok (a == a' && (b == b' && (c == c' && d == d'))) w := by
  have hu : Tryd.prog.underlying 36 = some (.array 4 34) := by kernel_rfl
  have h27 : Tryd.prog.underlying 34 = some (.int .u64) := by kernel_rfl
  rw [Op.equalIn]
  simp only [Sem.run_bind, run_underlying hu, Result.andThen_ok, size27]
  simp only [Std.Legacy.Range.forIn_eq_forIn_range', Std.Legacy.Range.size]
  rw [show List.range' 0 ((4 - 0 + 1 - 1) / 1) = [0, 1, 2, 3] from rfl]
  simp only [List.forIn_cons, List.forIn_nil, Sem.run_bind, Nat.reduceMul, part27, Result.andThen_ok, run_equalIn_int w n 34 .u64 .u64 _ _ h27]
  by_cases h0 : a = a'
  · by_cases h1 : b = b'
    · by_cases h2 : c = c'
      · by_cases h3 : d = d' <;> simp [h0, h1, h2, h3, part27_1, part27_2, part27_3, run_equalIn_int _ n 34 .u64 .u64 _ _ h27]
      · simp [h0, h1, h2, part27_1, part27_2, part27_3, run_equalIn_int _ n 34 .u64 .u64 _ _ h27]
    · simp [h0, h1, part27_1, part27_2, part27_3, run_equalIn_int _ n 34 .u64 .u64 _ _ h27]
  · simp [h0]

theorem vset_beq (s t : BS) : (wdI s 0 == wdI t 0 && (wdI s 1 == wdI t 1 && (wdI s 2 == wdI t 2 && wdI s 3 == wdI t 3))) = (s == t) := by
  by_cases h : s = t
  · subst h; simp
  · have : (s == t) = false := by simpa using h
    rw [this]
    cases hx : (wdI s 0 == wdI t 0 && (wdI s 1 == wdI t 1 && (wdI s 2 == wdI t 2 && wdI s 3 == wdI t 3)))
    · rfl
    · simp only [Bool.and_eq_true, beq_iff_eq] at hx
      exact absurd (wdI_inj hx.1 hx.2.1 hx.2.2.1 hx.2.2.2) h

theorem eq_sets (s t : BS) (w : World) : (Op.equalIn 10000 36 (.agg #[.int .u64 (wdI s 0), .int .u64 (wdI s 1), .int .u64 (wdI s 2), .int .u64 (wdI s 3)]) (.agg #[.int .u64 (wdI t 0), .int .u64 (wdI t 1), .int .u64 (wdI t 2), .int .u64 (wdI t 3)])).run Tryd.prog w = .ok (s == t) w := by
  rw [← vset_beq]; exact eq_words 9998 _ _ _ _ _ _ _ _ w

end Go.Proofs.YtdodkbpagbblmaaDoor
end
section
namespace Go.Proofs.YtdodkbpagbblmaaDoor
open Go Go.RowKit

theorem fields38 : (Tryd.prog.fieldsOf 38).toList.map (fun f => (f.name, f.type, f.offset)) = [("Kind", 33, 0), ("At", 3, 1), ("Text", 9, 2), ("Set", 36, 3), ("Number", 3, 7)] := by kernel_rfl

theorem eqf_cons (d : Nat) (xs ys : Array Value) (f : Field) (fs : List Field) (s : String) (t o : Nat) (h : (f.name, f.type, f.offset) = (s, t, o)) (hs : s ≠ "_") (a b : Value) (r : Bool) (w : World)
    (ha : (part t xs o).run Tryd.prog w = .ok a w) (hb : (part t ys o).run Tryd.prog w = .ok b w) (hr : (Op.equalIn d t a b).run Tryd.prog w = .ok r w) :
    (Op.eqFields d xs ys (f :: fs)).run Tryd.prog w = if r then (Op.eqFields d xs ys fs).run Tryd.prog w else .ok false w := by
  obtain ⟨rfl, rfl, rfl⟩ : f.name = s ∧ f.type = t ∧ f.offset = o := by simpa using h
  simp only [Op.eqFields, if_pos hs, Sem.run_bind, ha, hb, hr, Result.andThen_ok]
  cases r <;> simp

theorem eq_wds (n : Nat) (x y : Wd) (a b : Int) (w : World) : (Op.equalIn (n + 4) 38 (wordV x a) (wordV y b)).run Tryd.prog w =
    .ok (x.kind == y.kind && (a == b && (x.txt.toList == y.txt.toList && (x.set == y.set && x.num == y.num)))) w := by
  have h1 : Tryd.prog.underlying 38 = some (.struct (Tryd.prog.fieldsOf 38)) := by kernel_rfl
  have h2 : Tryd.prog.stoodInHeld 38 = false := by kernel_rfl
  have u33 : Tryd.prog.underlying 33 = some (.int .i64) := by kernel_rfl
  have u3 : Tryd.prog.underlying 3 = some (.int .i64) := by kernel_rfl
  have u9 : Tryd.prog.underlying 9 = some .string := by kernel_rfl
  have hf := fields38
  unfold wordV
  rw [run_equalIn_struct w (n + 3) 38 _ _ h1 h2]
  revert hf
  generalize (Tryd.prog.fieldsOf 38).toList = fs
  intro hf
  obtain ⟨f0, fs0, rfl⟩ : ∃ f l, fs = f :: l := by cases fs with | nil => simp at hf | cons f l => exact ⟨f, l, rfl⟩
  rw [List.map_cons, List.cons.injEq] at hf
  obtain ⟨g0, hf⟩ := hf
  obtain ⟨f1, fs1, rfl⟩ : ∃ f l, fs0 = f :: l := by cases fs0 with | nil => simp at hf | cons f l => exact ⟨f, l, rfl⟩
  rw [List.map_cons, List.cons.injEq] at hf
  obtain ⟨g1, hf⟩ := hf
  obtain ⟨f2, fs2, rfl⟩ : ∃ f l, fs1 = f :: l := by cases fs1 with | nil => simp at hf | cons f l => exact ⟨f, l, rfl⟩
  rw [List.map_cons, List.cons.injEq] at hf
  obtain ⟨g2, hf⟩ := hf
  obtain ⟨f3, fs3, rfl⟩ : ∃ f l, fs2 = f :: l := by cases fs2 with | nil => simp at hf | cons f l => exact ⟨f, l, rfl⟩
  rw [List.map_cons, List.cons.injEq] at hf
  obtain ⟨g3, hf⟩ := hf
  obtain ⟨f4, fs4, rfl⟩ : ∃ f l, fs3 = f :: l := by cases fs3 with | nil => simp at hf | cons f l => exact ⟨f, l, rfl⟩
  rw [List.map_cons, List.cons.injEq] at hf
  obtain ⟨g4, hf⟩ := hf
  obtain rfl : fs4 = [] := by simpa using hf
  obtain ⟨xk, xt, xs, xn⟩ := x
  obtain ⟨yk, yt, ys, yn⟩ := y
  unfold wordC
  dsimp only
  have e3 : (Op.equalIn (n + 3) 36 (.agg #[.int .u64 (wdI xs 0), .int .u64 (wdI xs 1), .int .u64 (wdI xs 2), .int .u64 (wdI xs 3)]) (.agg #[.int .u64 (wdI ys 0), .int .u64 (wdI ys 1), .int .u64 (wdI ys 2), .int .u64 (wdI ys 3)])).run Tryd.prog w = .ok (xs == ys) w := by
    rw [← vset_beq]; exact eq_words (n + 1) _ _ _ _ _ _ _ _ w
  rw [eqf_cons (n + 3) _ _ f0 _ _ _ _ g0 (by decide) (.int .i64 xk) (.int .i64 yk) _ w (by kernel_rfl) (by kernel_rfl) (run_equalIn_int w (n + 2) 33 .i64 .i64 xk yk u33),
    eqf_cons (n + 3) _ _ f1 _ _ _ _ g1 (by decide) (.int .i64 a) (.int .i64 b) _ w (by kernel_rfl) (by kernel_rfl) (run_equalIn_int w (n + 2) 3 .i64 .i64 a b u3),
    eqf_cons (n + 3) _ _ f2 _ _ _ _ g2 (by decide) (.string xt) (.string yt) _ w (by kernel_rfl) (by kernel_rfl) (run_equalIn_string w (n + 2) 9 xt yt u9),
    eqf_cons (n + 3) _ _ f3 _ _ _ _ g3 (by decide) _ _ _ w (by kernel_rfl) (by kernel_rfl) e3,
    eqf_cons (n + 3) _ _ f4 _ _ _ _ g4 (by decide) (.int .i64 xn) (.int .i64 yn) _ w (by kernel_rfl) (by kernel_rfl) (run_equalIn_int w (n + 2) 3 .i64 .i64 xn yn u3)]
  have e4 : (Op.eqFields (n + 3) (#[.int .i64 xk, .int .i64 a, .string xt, .int .u64 (wdI xs 0), .int .u64 (wdI xs 1), .int .u64 (wdI xs 2), .int .u64 (wdI xs 3), .int .i64 xn] : Array Value) (#[.int .i64 yk, .int .i64 b, .string yt, .int .u64 (wdI ys 0), .int .u64 (wdI ys 1), .int .u64 (wdI ys 2), .int .u64 (wdI ys 3), .int .i64 yn] : Array Value) []).run Tryd.prog w = .ok true w := by
    simp [Op.eqFields]
  rw [e4]
  cases xk == yk <;> cases a == b <;> cases xt.toList == yt.toList <;> cases xs == ys <;> cases xn == yn <;> rfl
end Go.Proofs.YtdodkbpagbblmaaDoor
end
section
namespace Go.Proofs.YtdodkbpagbblmaaDoor
open Go Go.RowKit

/-- A word with its place, as it lies in memory. -/
structure WordAt (w : World) (b o : Nat) (x : Wd × Int) : Prop where
  c0 : w.cell? ⟨b, o, none⟩ = some (.int .i64 x.1.kind)
  c1 : w.cell? ⟨b, o + 1, none⟩ = some (.int .i64 x.2)
  c2 : w.cell? ⟨b, o + 2, none⟩ = some (.string x.1.txt)
  c3 : w.cell? ⟨b, o + 3, none⟩ = some (.int .u64 (wdI x.1.set 0))
  c4 : w.cell? ⟨b, o + 4, none⟩ = some (.int .u64 (wdI x.1.set 1))
  c5 : w.cell? ⟨b, o + 5, none⟩ = some (.int .u64 (wdI x.1.set 2))
  c6 : w.cell? ⟨b, o + 6, none⟩ = some (.int .u64 (wdI x.1.set 3))
  c7 : w.cell? ⟨b, o + 7, none⟩ = some (.int .i64 x.1.num)
/-- Words as they lie behind a slice. -/
def RowW (w : World) (a : Option Addr) (l : List (Wd × Int)) : Prop :=
  ∀ (i : Nat) (x : Wd × Int), l[i]? = some x → ∃ b off, a = some ⟨b, off, none⟩ ∧ WordAt w b (off + i * 8) x
theorem WordAt.to {w W : World} {b o : Nat} {x : Wd × Int} (h : WordAt w b o x) (hb : W.heap[b]? = w.heap[b]?) : WordAt W b o x := by
  have k : ∀ o, W.cell? ⟨b, o, none⟩ = w.cell? ⟨b, o, none⟩ := fun o => World.cell?_of_block (w := w) hb
  exact ⟨(k _).trans h.c0, (k _).trans h.c1, (k _).trans h.c2, (k _).trans h.c3, (k _).trans h.c4, (k _).trans h.c5, (k _).trans h.c6, (k _).trans h.c7⟩
theorem WordAt.lt {w : World} {b o : Nat} {x : Wd × Int} (h : WordAt w b o x) : b < w.heap.size := lt_of_cell h.c0
theorem WordAt.below {w W : World} {n b o : Nat} {x : Wd × Int} (h : WordAt w b o x) (hB : Below n w W) (hn : b < n) : WordAt W b o x := h.to (hB.block b hn)
theorem RowW.to {w W : World} {a : Option Addr} {l : List (Wd × Int)} (h : RowW w a l) (hb : ∀ g o, a = some ⟨g, o, none⟩ → W.heap[g]? = w.heap[g]?) : RowW W a l := fun i x hx => by
  obtain ⟨b, off, rfl, k⟩ := h i x hx
  exact ⟨b, off, rfl, k.to (hb _ _ rfl)⟩
theorem RowW.below {w W : World} {a : Option Addr} {l : List (Wd × Int)} (h : RowW w a l) (hB : Below w.heap.size w W) : RowW W a l := fun i x hx => by
  obtain ⟨b, off, rfl, k⟩ := h i x hx
  exact ⟨b, off, rfl, k.below hB k.lt⟩

/-- Are two words the same, wherever they stand? -/
def sameW (x y : Wd) : Bool := x.kind == y.kind && (x.txt.toList == y.txt.toList && (x.set == y.set && x.num == y.num))

set_option maxRecDepth 100000 in
set_option maxHeartbeats 4000000 in
theorem same1_any (x y : Wd) (a b : Int) (w : World) : Calls Tryd.prog 20 #[wordV x a, wordV y b] w fun e w' => e = .returned (.bool (sameW x y)) ∧ Below w.heap.size w w' := by
  have HE := fun w' => Lib.hid (eq_wds 9996 x y b b w')
  obtain ⟨r, hr⟩ : ∃ r, r = sameW x y := ⟨_, rfl⟩
  have hrr : (x.kind == y.kind && (b == b && (x.txt.toList == y.txt.toList && (x.set == y.set && x.num == y.num)))) = r := by rw [hr]; unfold sameW; simp
  simp only [hrr] at HE
  rw [← hr]
  clear hr hrr
  have HE' := fun w' => (HE w').out
  unfold wordV wordC at *
  go_enter Tryd.func20, Tryd.ntmps20
  go_wp2
  go_ret
  exact ⟨rfl, ((Below.refl _ w).alloc (Nat.le_refl _) _).alloc (by simp) _⟩
end Go.Proofs.YtdodkbpagbblmaaDoor
end
section
namespace Go.Proofs.YtdodkbpagbblmaaDoor
open Go Go.RowKit

/-- Are words the same, one by one? -/
def sameL : List (Wd × Int) → List (Wd × Int) → Bool
  | [], [] => true
  | x :: xs, y :: ys => sameW x.1 y.1 && sameL xs ys
  | _, _ => false
theorem sameL_len : ∀ (l k : List (Wd × Int)), l.length ≠ k.length → sameL l k = false := by
  intro l
  induction l with
  | nil => intro k h; cases k with | nil => simp at h | cons y k => rfl
  | cons x l ih =>
    intro k h
    cases k with
    | nil => rfl
    | cons y k => unfold sameL; rw [ih k (by simp at h; omega)]; simp
theorem sameL_at (l k : List (Wd × Int)) (i : Nat) (x y : Wd × Int) (hx : l[i]? = some x) (hy : k[i]? = some y) : sameL (l.drop i) (k.drop i) = (sameW x.1 y.1 && sameL (l.drop (i + 1)) (k.drop (i + 1))) := by
  obtain ⟨h1, e1⟩ := List.getElem?_eq_some_iff.1 hx
  obtain ⟨h2, e2⟩ := List.getElem?_eq_some_iff.1 hy
  rw [List.drop_eq_getElem_cons h1, List.drop_eq_getElem_cons h2, e1, e2]
  rfl

set_option maxRecDepth 100000 in
set_option maxHeartbeats 4000000 in
theorem equalFunc_any (a b : Option Addr) (ca cb : Nat) (l k : List (Wd × Int)) (w : World) (hl : RowW w a l) (hk : RowW w b k) (hll : l.length ≤ 1048576) (_hkl : k.length ≤ 1048576) :
    Calls Tryd.prog 19 #[.slice a l.length ca, .slice b k.length cb, .func (.func 20) #[] #[]] w fun e w' => e = .returned (.bool (sameL l k)) ∧ Below w.heap.size w w' := by
  have HD := Lib.hid hl
  have HK := Lib.hid hk
  clear hl hk
  by_cases hne : l.length = k.length
  · obtain ⟨n, hn⟩ : ∃ n, n = l.length := ⟨_, rfl⟩
    rw [← hne, ← hn]
    have HN : Hid (l.length = n ∧ k.length = n) := ⟨hn.symm, by rw [← hne, hn]⟩
    have hn1 : n ≤ 1048576 := by rw [hn]; exact hll
    clear hne hn hll _hkl
    go_enter Tryd.func19, Tryd.ntmps19
    go_wp2
    go_loopw [17] (fun i wr => ∃ (m : Nat), i = .int .i64 m ∧ m ≤ n ∧ Hid (sameL l k = sameL (l.drop m) (k.drop m)) ∧ Hid (Below w.heap.size w wr))
      (fun i _ => n - (intOf i).toNat)
    case atStart => exact ⟨0, rfl, Nat.zero_le _, Lib.hid rfl, Below.refl _ _⟩
    case round =>
      obtain ⟨m, rfl, hm, hS, hB⟩ := hrel
      by_cases hlt : m < n
      · have HX : Hid (l[m]? = some (l[m]'(by rw [HN.out.1]; exact hlt))) := Lib.hid (List.getElem?_eq_getElem _)
        have HY : Hid (k[m]? = some (k[m]'(by rw [HN.out.2]; exact hlt))) := Lib.hid (List.getElem?_eq_getElem _)
        obtain ⟨x, hx⟩ : ∃ x, l[m]'(by rw [HN.out.1]; exact hlt) = x := ⟨_, rfl⟩
        obtain ⟨y, hy⟩ : ∃ y, k[m]'(by rw [HN.out.2]; exact hlt) = y := ⟨_, rfl⟩
        rw [hx] at HX
        rw [hy] at HY
        clear hx hy
        have HS := Lib.hid (sameL_at l k m x y HX.out HY.out)
        obtain ⟨x, ax⟩ := x
        obtain ⟨y, ay⟩ := y
        obtain ⟨g, off, rfl, hW⟩ := HD.out m _ HX.out
        obtain ⟨h, ofg, rfl, hV⟩ := HK.out m _ HY.out
        have hW := hW.below hB.out hW.lt
        have hV := hV.below hB.out hV.lt
        have bg := hW.lt
        have bh := hV.lt
        obtain ⟨c0, c1, c2, c3, c4, c5, c6, c7⟩ := hW
        obtain ⟨d0, d1, d2, d3, d4, d5, d6, d7⟩ := hV
        dsimp only at c0 c1 c2 c3 c4 c5 c6 c7 d0 d1 d2 d3 d4 d5 d6 d7 HS
        have hszr := hB.out.size
        have HC := fun w' => Lib.hid (same1_any x y ax ay w')
        obtain ⟨r, hr⟩ : ∃ r, r = sameW x y := ⟨_, rfl⟩
        rw [← hr] at HC HS
        unfold wordV wordC at HC
        clear hr
        have hB2 : Below w.heap.size w ((wr.alloc (.cells (wordC x ax) 38)).alloc (.cells (wordC y ay) 38)) := (hB.out.alloc hszr _).alloc (by simp; omega) _
        have HB2 := Lib.hid hB2
        clear hB2
        unfold wordC at HB2
        have n1 : (m : Int) < (n : Int) := by omega
        cases r with
        | true =>
          have HS2 : Hid (sameL l k = sameL (l.drop (m + 1)) (k.drop (m + 1))) := Lib.hid (by rw [hS.out, HS.out, Bool.true_and])
          clear hS HS HX HY
          go_wp2_with (go_at_call 20; refine (HC _).out.mono ?_; rintro e w3 ⟨rfl, hB3⟩)
          have HB3 := Lib.hid (HB2.out.trans (hB3.mono HB2.out.size))
          clear hB3
          go_wp2
          go_roundw
          case rel => exact ⟨m + 1, by go_num, by omega, HS2, HB3⟩
          case measure => simp [intOf]; omega
        | false =>
          have HS2 : Hid (sameL l k = false) := Lib.hid (by rw [hS.out, HS.out, Bool.false_and])
          clear hS HS HX HY
          go_wp2_with (go_at_call 20; refine (HC _).out.mono ?_; rintro e w3 ⟨rfl, hB3⟩)
          have HB3 := Lib.hid (HB2.out.trans (hB3.mono HB2.out.size))
          clear hB3
          go_wp2
          go_ret
          exact ⟨by rw [HS2.out]; rfl, HB3.out⟩
      · obtain rfl : m = n := by omega
        have HS2 : Hid (sameL l k = true) := by
          refine Lib.hid ?_
          rw [hS.out, List.drop_eq_nil_of_le (by rw [HN.out.1]; exact Nat.le_refl _), List.drop_eq_nil_of_le (by rw [HN.out.2]; exact Nat.le_refl _)]
          rfl
        clear hS
        go_wp2
        go_ret
        exact ⟨by rw [HS2.out]; rfl, hB.out⟩
  · have HS := Lib.hid (sameL_len l k hne)
    have n1 : ¬ (l.length : Int) = (k.length : Int) := by omega
    go_enter Tryd.func19, Tryd.ntmps19
    go_wp2
    go_ret
    exact ⟨by rw [HS.out]; rfl, Below.refl _ _⟩

set_option maxRecDepth 100000 in
theorem same_any (a b : Option Addr) (ca cb : Nat) (l k : List (Wd × Int)) (w : World) (hl : RowW w a l) (hk : RowW w b k) (hll : l.length ≤ 1048576) (hkl : k.length ≤ 1048576) :
    Calls Tryd.prog 12 #[.slice a l.length ca, .slice b k.length cb] w fun e w' => e = .returned (.bool (sameL l k)) ∧ Below w.heap.size w w' := by
  have HC := Lib.hid (equalFunc_any a b ca cb l k w hl hk hll hkl)
  clear hl hk
  go_enter Tryd.func12, Tryd.ntmps12
  go_wp2_with (go_at_call 19; refine HC.out.mono ?_; rintro e w3 ⟨rfl, hB3⟩)
  go_ret
  exact ⟨rfl, hB3⟩
end Go.Proofs.YtdodkbpagbblmaaDoor
end
section
namespace Go.Proofs.YtdodkbpagbblmaaDoor
open Go Go.RowKit

set_option maxHeartbeats 800000 in
theorem name_all (s : ByteArray) (w : World) : Calls Tryd.prog 18 #[.string s] w fun e w' => e = .returned (.bool (nameB s.data.toList)) ∧ w = w' := by
  have key : ∀ r, nameB s.data.toList = r → (Calls Tryd.prog 18 #[.string s] w fun e w' => e = .returned (.bool r) ∧ w = w') → Calls Tryd.prog 18 #[.string s] w fun e w' => e = .returned (.bool (nameB s.data.toList)) ∧ w = w' := fun r h k => by rw [h]; exact k
  by_cases h0 : s.size = 0
  · refine key false (by rw [(list_empty s).1 h0]; rfl) ?_
    have hem := isEmpty_of s h0
    have hem2 : (!s.toList.isEmpty) = false := by rw [hem]; rfl
    clear key h0
    go_enter Tryd.func18, Tryd.ntmps18
    go_wp2
    go_ret
    simp
  · have hem := isEmpty_not s h0
    have hem2 : (!s.toList.isEmpty) = true := by rw [hem]; rfl
    obtain ⟨b, hb⟩ : ∃ b, b = (s[0]'(by omega)).toNat := ⟨_, rfl⟩
    have hi : ∀ h, (s[0]'h).toNat = b := fun h => hb.symm
    have hE : nameB s.data.toList = (decide (s.size ≤ 64) && !digB b && decide (runL s.data.toList = s.size)) := by
      have h := drop_at s 0 (by omega)
      rw [List.drop_zero] at h
      rw [Lib.size_eq, h, hb]
      rfl
    have HE := Lib.hid hE
    have HD := Lib.hid (isDigit_any b w)
    have HRq := fun h : s.size ≤ 140737488351232 => Lib.hid (runLength_any s h w)
    have n0 : (0 : Int) < (s.size : Int) := by omega
    clear hb hE
    by_cases h1 : s.size ≤ 64
    · have d1 : (s.size : Int) ≤ 64 := by omega
      have HR := HRq (by omega)
      clear HRq
      cases hd : digB b with
      | true =>
        refine key false (by rw [HE.out, hd]; simp) ?_
        rw [hd] at HD
        clear key HE hd h0
        go_enter Tryd.func18, Tryd.ntmps18
        go_wp2_with (first | (go_at_call 23; refine HD.out.mono ?_; rintro e w' ⟨rfl, rfl⟩) | (go_at_call 34; refine HR.out.mono ?_; rintro e w' ⟨rfl, rfl⟩))
        go_ret
        simp
      | false =>
        rw [hd] at HD
        obtain ⟨q, hq⟩ : ∃ q, q = runL s.data.toList := ⟨_, rfl⟩
        rw [← hq] at HR HE
        by_cases h2 : q = s.size
        · refine key true (by rw [HE.out, hd]; simp [h1, h2]) ?_
          have d2 : ((q : Int) == (s.size : Int)) = true := by rw [beq_iff_eq]; omega
          clear key HE hd h0 hq h2
          go_enter Tryd.func18, Tryd.ntmps18
          go_wp2_with (first | (go_at_call 23; refine HD.out.mono ?_; rintro e w' ⟨rfl, rfl⟩) | (go_at_call 34; refine HR.out.mono ?_; rintro e w' ⟨rfl, rfl⟩))
          go_ret
          simp
        · refine key false (by rw [HE.out, hd]; simp [h1, h2]) ?_
          have d2 : ((q : Int) == (s.size : Int)) = false := by rw [beq_eq_false_iff_ne]; omega
          clear key HE hd h0 hq h2
          go_enter Tryd.func18, Tryd.ntmps18
          go_wp2_with (first | (go_at_call 23; refine HD.out.mono ?_; rintro e w' ⟨rfl, rfl⟩) | (go_at_call 34; refine HR.out.mono ?_; rintro e w' ⟨rfl, rfl⟩))
          go_ret
          simp
    · have d1 : ¬ (s.size : Int) ≤ 64 := by omega
      clear HRq
      refine key false (by rw [HE.out]; simp [h1]) ?_
      clear key HE h0
      go_enter Tryd.func18, Tryd.ntmps18
      go_wp2
      go_ret
      simp
end Go.Proofs.YtdodkbpagbblmaaDoor
end
section
namespace Go.Proofs.YtdodkbpagbblmaaDoor
open Go Go.RowKit

/-- What a word has, and nothing else. -/
def bareW (x : Wd) : Wd :=
  if x.kind = 1 ∨ x.kind = 2 ∨ x.kind = 5 then ⟨x.kind, x.txt, 0#256, 0⟩ else if x.kind = 3 then ⟨x.kind, ⟨#[]⟩, x.set, 0⟩ else if x.kind = 4 then ⟨x.kind, ⟨#[]⟩, 0#256, x.num⟩ else ⟨x.kind, ⟨#[]⟩, 0#256, 0⟩
def signT : List UInt8 → Bool
  | [c] => sgnB c.toNat
  | _ => false
/-- Is what a word has as it must be? -/
def okW (x : Wd) : Bool :=
  if x.kind = 1 then nameB x.txt.data.toList else if x.kind = 2 then true else if x.kind = 3 then true else if x.kind = 4 then decide (0 ≤ x.num ∧ x.num ≤ 999999999) else if x.kind = 5 then signT x.txt.data.toList else false
def mayB (x : Wd) : Bool := okW x && sameW x (bareW x)

theorem eq_bare (x y : Wd) (a : Int) (w : World) : (Op.equalIn 10000 38 (.agg (wordC x a)) (.agg (wordC y a))).run Tryd.prog w = .ok (sameW x y) w := by
  have h := eq_wds 9996 x y a a w
  have e : (x.kind == y.kind && (a == a && (x.txt.toList == y.txt.toList && (x.set == y.set && x.num == y.num)))) = sameW x y := by unfold sameW; simp
  rw [e] at h
  exact h

set_option maxRecDepth 100000 in
set_option maxHeartbeats 4000000 in
theorem mayBe_any (x : Wd) (a : Int) (w : World) : Calls Tryd.prog 15 #[wordV x a] w fun e w' => e = .returned (.bool (mayB x)) ∧ Below w.heap.size w w' := by
  obtain ⟨kd, tx, st, nm⟩ := x
  have key : ∀ r, mayB ⟨kd, tx, st, nm⟩ = r → (Calls Tryd.prog 15 #[wordV ⟨kd, tx, st, nm⟩ a] w fun e w' => e = .returned (.bool r) ∧ Below w.heap.size w w') → Calls Tryd.prog 15 #[wordV ⟨kd, tx, st, nm⟩ a] w fun e w' => e = .returned (.bool (mayB ⟨kd, tx, st, nm⟩)) ∧ Below w.heap.size w w' := fun r h k => by rw [h]; exact k
  have HE : ∀ y : Wd, Hid (∀ w', (Op.equalIn 10000 38 (.agg (wordC ⟨kd, tx, st, nm⟩ a)) (.agg (wordC y a))).run Tryd.prog w' = .ok (sameW ⟨kd, tx, st, nm⟩ y) w') := fun y => Lib.hid fun w' => eq_bare ⟨kd, tx, st, nm⟩ y a w'
  obtain ⟨z0, z1, z2, z3⟩ := wz
  by_cases c1 : kd = 1
  · subst c1
    have he := (HE ⟨1, tx, 0#256, 0⟩).out
    have hm : mayB ⟨1, tx, st, nm⟩ = (nameB tx.data.toList && sameW ⟨1, tx, st, nm⟩ ⟨1, tx, 0#256, 0⟩) := rfl
    have HC := fun w' => Lib.hid (name_all tx w')
    generalize sameW ⟨1, tx, st, nm⟩ ⟨1, tx, 0#256, 0⟩ = r at he hm
    generalize nameB tx.data.toList = m at HC hm
    refine key _ hm ?_
    unfold wordC at he
    dsimp only at he
    rw [z0, z1, z2, z3] at he
    clear key HE hm z0 z1 z2 z3
    unfold wordV wordC
    cases m with
    | true =>
      go_enter Tryd.func15, Tryd.ntmps15
      go_wp2
      go_region_with (go_at_call 18; refine (HC _).out.mono ?_; rintro e w3 ⟨rfl, rfl⟩)
      all_goals go_wp2
      all_goals go_ret
      all_goals exact ⟨by simp, by first | exact ((Below.refl _ w).alloc (Nat.le_refl _) _).alloc (by simp) _ | exact (((Below.refl _ w).alloc (Nat.le_refl _) _).alloc (by simp) _).drew | exact (((Below.refl _ w).alloc (Nat.le_refl _) _).alloc (by simp) _).drew.drew⟩
    | false =>
      go_enter Tryd.func15, Tryd.ntmps15
      go_wp2
      go_region_with (go_at_call 18; refine (HC _).out.mono ?_; rintro e w3 ⟨rfl, rfl⟩)
      all_goals go_wp2
      all_goals go_ret
      all_goals exact ⟨by simp, by first | exact ((Below.refl _ w).alloc (Nat.le_refl _) _).alloc (by simp) _ | exact (((Below.refl _ w).alloc (Nat.le_refl _) _).alloc (by simp) _).drew | exact (((Below.refl _ w).alloc (Nat.le_refl _) _).alloc (by simp) _).drew.drew⟩
  by_cases c2 : kd = 2
  · subst c2
    have he := (HE ⟨2, tx, 0#256, 0⟩).out
    have hm : mayB ⟨2, tx, st, nm⟩ = (true && sameW ⟨2, tx, st, nm⟩ ⟨2, tx, 0#256, 0⟩) := rfl
    generalize sameW ⟨2, tx, st, nm⟩ ⟨2, tx, 0#256, 0⟩ = r at he hm
    refine key _ hm ?_
    unfold wordC at he
    dsimp only at he
    rw [z0, z1, z2, z3] at he
    clear key HE hm z0 z1 z2 z3
    unfold wordV wordC
    go_enter Tryd.func15, Tryd.ntmps15
    go_wp2
    go_region
    all_goals go_wp2
    all_goals go_ret
    all_goals exact ⟨by simp, by first | exact ((Below.refl _ w).alloc (Nat.le_refl _) _).alloc (by simp) _ | exact (((Below.refl _ w).alloc (Nat.le_refl _) _).alloc (by simp) _).drew | exact (((Below.refl _ w).alloc (Nat.le_refl _) _).alloc (by simp) _).drew.drew⟩
  by_cases c3 : kd = 3
  · subst c3
    have he := (HE ⟨3, ⟨#[]⟩, st, 0⟩).out
    have hm : mayB ⟨3, tx, st, nm⟩ = (true && sameW ⟨3, tx, st, nm⟩ ⟨3, ⟨#[]⟩, st, 0⟩) := rfl
    generalize sameW ⟨3, tx, st, nm⟩ ⟨3, ⟨#[]⟩, st, 0⟩ = r at he hm
    refine key _ hm ?_
    unfold wordC at he
    dsimp only at he
    clear key HE hm z0 z1 z2 z3
    unfold wordV wordC
    go_enter Tryd.func15, Tryd.ntmps15
    go_wp2
    go_region
    all_goals go_wp2
    all_goals go_ret
    all_goals exact ⟨by simp, by first | exact ((Below.refl _ w).alloc (Nat.le_refl _) _).alloc (by simp) _ | exact (((Below.refl _ w).alloc (Nat.le_refl _) _).alloc (by simp) _).drew | exact (((Below.refl _ w).alloc (Nat.le_refl _) _).alloc (by simp) _).drew.drew⟩
  by_cases c4 : kd = 4
  · subst c4
    have he := (HE ⟨4, ⟨#[]⟩, 0#256, nm⟩).out
    have hm : mayB ⟨4, tx, st, nm⟩ = (decide (0 ≤ nm ∧ nm ≤ 999999999) && sameW ⟨4, tx, st, nm⟩ ⟨4, ⟨#[]⟩, 0#256, nm⟩) := rfl
    generalize sameW ⟨4, tx, st, nm⟩ ⟨4, ⟨#[]⟩, 0#256, nm⟩ = r at he hm
    by_cases d1 : (0 : Int) ≤ nm
    · by_cases d2 : nm ≤ 999999999
      · rw [show decide (0 ≤ nm ∧ nm ≤ 999999999) = true from by simp [d1, d2]] at hm
        refine key _ hm ?_
        unfold wordC at he
        dsimp only at he
        rw [z0, z1, z2, z3] at he
        clear key HE hm z0 z1 z2 z3
        unfold wordV wordC
        go_enter Tryd.func15, Tryd.ntmps15
        go_wp2
        go_region
        all_goals go_wp2
        all_goals go_ret
        all_goals exact ⟨by simp, by first | exact ((Below.refl _ w).alloc (Nat.le_refl _) _).alloc (by simp) _ | exact (((Below.refl _ w).alloc (Nat.le_refl _) _).alloc (by simp) _).drew | exact (((Below.refl _ w).alloc (Nat.le_refl _) _).alloc (by simp) _).drew.drew⟩
      · rw [show decide (0 ≤ nm ∧ nm ≤ 999999999) = false from by simp [d2]] at hm
        refine key _ hm ?_
        unfold wordC at he
        dsimp only at he
        rw [z0, z1, z2, z3] at he
        clear key HE hm z0 z1 z2 z3
        unfold wordV wordC
        go_enter Tryd.func15, Tryd.ntmps15
        go_wp2
        go_region
        all_goals go_wp2
        all_goals go_ret
        all_goals exact ⟨by simp, by first | exact ((Below.refl _ w).alloc (Nat.le_refl _) _).alloc (by simp) _ | exact (((Below.refl _ w).alloc (Nat.le_refl _) _).alloc (by simp) _).drew | exact (((Below.refl _ w).alloc (Nat.le_refl _) _).alloc (by simp) _).drew.drew⟩
    · rw [show decide (0 ≤ nm ∧ nm ≤ 999999999) = false from by simp [d1]] at hm
      have e1 : decide ((0 : Int) ≤ nm) = false := by simp; omega
      refine key _ hm ?_
      unfold wordC at he
      dsimp only at he
      rw [z0, z1, z2, z3] at he
      clear key HE hm z0 z1 z2 z3
      unfold wordV wordC
      go_enter Tryd.func15, Tryd.ntmps15
      go_wp2
      go_region
      all_goals go_wp2
      all_goals go_ret
      all_goals exact ⟨by simp, by first | exact ((Below.refl _ w).alloc (Nat.le_refl _) _).alloc (by simp) _ | exact (((Below.refl _ w).alloc (Nat.le_refl _) _).alloc (by simp) _).drew | exact (((Below.refl _ w).alloc (Nat.le_refl _) _).alloc (by simp) _).drew.drew⟩
  by_cases c5 : kd = 5
  · subst c5
    have he := (HE ⟨5, tx, 0#256, 0⟩).out
    have hm : mayB ⟨5, tx, st, nm⟩ = (signT tx.data.toList && sameW ⟨5, tx, st, nm⟩ ⟨5, tx, 0#256, 0⟩) := rfl
    generalize sameW ⟨5, tx, st, nm⟩ ⟨5, tx, 0#256, 0⟩ = r at he hm
    by_cases d1 : tx.size = 1
    · obtain ⟨b, hb⟩ : ∃ b, b = (tx[0]'(by omega)).toNat := ⟨_, rfl⟩
      have hi : ∀ h, (tx[0]'h).toNat = b := fun h => hb.symm
      have hbl : b < 256 := by rw [hb]; exact (tx[0]'(by omega)).toNat_lt
      have hs : signT tx.data.toList = sgnB b := by
        have h := drop_at tx 0 (by omega)
        rw [List.drop_zero, List.drop_eq_nil_of_le (by rw [← Lib.size_eq]; omega)] at h
        rw [h, hb]
        rfl
      rw [hs] at hm
      have HC := fun w' => Lib.hid (isSgn_any b hbl w')
      have n1 : ((tx.size : Int) == 1) = true := by rw [beq_iff_eq]; omega
      clear hb hs
      cases hg : sgnB b with
      | true =>
        rw [hg] at hm HC
        clear hg
        refine key _ hm ?_
        unfold wordC at he
        dsimp only at he
        rw [z0, z1, z2, z3] at he
        clear key HE hm z0 z1 z2 z3
        unfold wordV wordC
        go_enter Tryd.func15, Tryd.ntmps15
        go_wp2
        go_region_with (go_at_call 27; refine (HC _).out.mono ?_; rintro e w3 ⟨rfl, rfl⟩)
        all_goals go_wp2
        all_goals go_ret
        all_goals exact ⟨by simp, by first | exact ((Below.refl _ w).alloc (Nat.le_refl _) _).alloc (by simp) _ | exact (((Below.refl _ w).alloc (Nat.le_refl _) _).alloc (by simp) _).drew | exact (((Below.refl _ w).alloc (Nat.le_refl _) _).alloc (by simp) _).drew.drew⟩
      | false =>
        rw [hg] at hm HC
        clear hg
        refine key _ hm ?_
        unfold wordC at he
        dsimp only at he
        rw [z0, z1, z2, z3] at he
        clear key HE hm z0 z1 z2 z3
        unfold wordV wordC
        go_enter Tryd.func15, Tryd.ntmps15
        go_wp2
        go_region_with (go_at_call 27; refine (HC _).out.mono ?_; rintro e w3 ⟨rfl, rfl⟩)
        all_goals go_wp2
        all_goals go_ret
        all_goals exact ⟨by simp, by first | exact ((Below.refl _ w).alloc (Nat.le_refl _) _).alloc (by simp) _ | exact (((Below.refl _ w).alloc (Nat.le_refl _) _).alloc (by simp) _).drew | exact (((Below.refl _ w).alloc (Nat.le_refl _) _).alloc (by simp) _).drew.drew⟩
    · have hs : signT tx.data.toList = false := by
        have h : tx.data.toList.length ≠ 1 := by rw [← Lib.size_eq]; exact d1
        match hl : tx.data.toList with
        | [] => rfl
        | [c] => rw [hl] at h; simp at h
        | c :: d :: l => rfl
      rw [hs] at hm
      have n1 : ((tx.size : Int) == 1) = false := by rw [beq_eq_false_iff_ne]; omega
      clear hs
      refine key _ hm ?_
      unfold wordC at he
      dsimp only at he
      rw [z0, z1, z2, z3] at he
      clear key HE hm z0 z1 z2 z3
      unfold wordV wordC
      go_enter Tryd.func15, Tryd.ntmps15
      go_wp2
      go_region
      all_goals go_wp2
      all_goals go_ret
      all_goals exact ⟨by simp, by first | exact ((Below.refl _ w).alloc (Nat.le_refl _) _).alloc (by simp) _ | exact (((Below.refl _ w).alloc (Nat.le_refl _) _).alloc (by simp) _).drew | exact (((Below.refl _ w).alloc (Nat.le_refl _) _).alloc (by simp) _).drew.drew⟩
  · have hm : mayB ⟨kd, tx, st, nm⟩ = false := by unfold mayB okW; simp [c1, c2, c3, c4, c5]
    refine key _ hm ?_
    clear key HE hm z0 z1 z2 z3
    unfold wordV wordC
    go_enter Tryd.func15, Tryd.ntmps15
    go_wp2
    go_ret
    exact ⟨by simp, ((Below.refl _ w).alloc (Nat.le_refl _) _).alloc (by simp) _⟩
end Go.Proofs.YtdodkbpagbblmaaDoor
end
section
namespace Go.Proofs.YtdodkbpagbblmaaDoor
open Go Go.RowKit

/-- What a word has, and nothing else: see Q20. -/
def tailW (l : List (Wd × Int)) : List Nat := l.flatMap fun x => 32 :: wordF x.1
/-- Words' texts, one blank between each two. -/
def joinW : List (Wd × Int) → List Nat
  | [] => []
  | x :: l => wordF x.1 ++ tailW l
theorem joinW_snoc (l : List (Wd × Int)) (x : Wd × Int) (h : l ≠ []) : joinW (l ++ [x]) = joinW l ++ [32] ++ wordF x.1 := by
  cases l with
  | nil => exact absurd rfl h
  | cons y l => simp [joinW, tailW]
theorem joinW_pre (l k : List (Wd × Int)) : (joinW l).length ≤ (joinW (l ++ k)).length := by
  cases l with
  | nil => simp [joinW]
  | cons y l => simp [joinW, tailW]
theorem joinW_take (l : List (Wd × Int)) (k : Nat) : (joinW (l.take k)).length ≤ (joinW l).length := by
  have h := joinW_pre (l.take k) (l.drop k)
  rw [List.take_append_drop] at h
  exact h
theorem own_slice {w : World} {b e s n : Nat} {v : Value} {xs : List Value} (h : w.ownsRow b e s v n xs) : ∃ a cap, v = .slice a n cap := by
  rcases h.2 with ⟨rfl, h0⟩ | ⟨g, cap, cur, rfl, _⟩
  · exact ⟨none, 0, by rw [h0]⟩
  · exact ⟨_, cap, rfl⟩
/-- The text of bytes that a slice owns. -/
theorem conv_owns {n₀ : Nat} {w : World} {a : Option Addr} {c : Nat} {l : List Nat} (h : w.ownsRow n₀ 5 1 (.slice a l.length c) l.length (l.map byteV)) : (convert 22 9 (.slice a l.length c)).run Tryd.prog w = .ok (.string (bytesStr l)) w := by
  rcases h.2 with ⟨h1, h0⟩ | ⟨g, cap, cur, h1, _⟩
  · have : l = [] := List.length_eq_zero_iff.1 h0
    subst this
    cases h1
    exact conv_nil w
  · cases h1
    exact conv_own g c w l l.length rfl h
end Go.Proofs.YtdodkbpagbblmaaDoor
end
section
namespace Go.Proofs.YtdodkbpagbblmaaDoor
open Go Go.RowKit

/-- What Print says of words. -/
def printR (l : List (Wd × Int)) : ByteArray × Int :=
  if l.all (fun x => mayB x.1) = true then (if 1048576 < (joinW l).length then (⟨#[]⟩, 3) else (bytesStr (joinW l), 0)) else (⟨#[]⟩, 2)

/-- A word that may be is at least as long as what it has. -/
theorem wordF_long (x : Wd) (h : mayB x = true) : x.txt.size ≤ (wordF x).length := by
  have hq : ∀ l : List UInt8, l.length ≤ (quoteL l).length := by
    intro l
    induction l with
    | nil => simp [quoteL]
    | cons c l ih =>
      have := quoteB_pos c.toNat
      simp [quoteL] at ih ⊢
      omega
  obtain ⟨kd, tx, st, nm⟩ := x
  unfold mayB at h
  rw [Bool.and_eq_true] at h
  have hs := h.2
  unfold sameW at hs
  simp only [Bool.and_eq_true, beq_iff_eq] at hs
  have ht := hs.2.1
  by_cases c2 : kd = 2
  · have := hq tx.data.toList
    unfold wordF quoteF
    rw [if_pos c2]
    simp only [List.length_append, List.length_cons, List.length_nil]
    rw [Lib.size_eq]
    omega
  · by_cases c3 : kd = 3
    · have : tx.size = 0 := by
        unfold bareW at ht
        rw [if_neg (by simp; omega), if_pos c3] at ht
        have := congrArg List.length ht
        rw [ByteArray.toList_eq, ByteArray.toList_eq] at this
        rw [Lib.size_eq]
        exact this
      simp only
      omega
    · by_cases c4 : kd = 4
      · have : tx.size = 0 := by
          unfold bareW at ht
          rw [if_neg (by simp; omega), if_neg c3, if_pos c4] at ht
          have := congrArg List.length ht
          rw [ByteArray.toList_eq, ByteArray.toList_eq] at this
          rw [Lib.size_eq]
          exact this
        simp only
        omega
      · unfold wordF
        rw [if_neg c2, if_neg c3, if_neg c4, List.length_map, ← Lib.size_eq]
        exact Nat.le_refl _

theorem wordF_len (x : Wd) (h0 : -9223372036854775808 ≤ x.num) (h1 : x.num ≤ 9223372036854775807) : (wordF x).length ≤ 4 * x.txt.size + 3000 := by
  obtain ⟨kd, tx, st, nm⟩ := x
  unfold wordF
  split
  · have := quoteF_len tx.data.toList
    rw [← Lib.size_eq] at this
    simp only
    omega
  · split
    · have := textS_len st
      simp only
      omega
    · split
      · simp only [List.length_map]
        have := Lib.itoa_length_le nm h0 h1
        omega
      · simp only [List.length_map]
        rw [← Lib.size_eq]
        omega

theorem cell_one_next (w : World) (o : Obj) (a0 : Value) (t : TypeId) : ∀ j u, [a0][j]? = some u → ((w.alloc o).alloc (.cells #[a0] t)).cell? ((⟨w.heap.size + 1, 0, none⟩ : Addr).add j) = some u := by
  have h := cell_one_new (w.alloc o) a0 t
  rw [World.size_alloc] at h
  exact h

set_option maxRecDepth 100000 in
set_option maxHeartbeats 16000000 in
theorem print_any (a : Option Addr) (cap : Nat) (l : List (Wd × Int)) (w : World) (hG : GlobD w) (hl : RowW w a l) (hll : l.length ≤ 1048576) (hx : ∀ x ∈ l, (x.1.txt.size ≤ 9223372036854775807 ∧ (l.length ≤ 1 ∨ x.1.txt.size ≤ 140737488351232)) ∧ -9223372036854775808 ≤ x.1.num ∧ x.1.num ≤ 9223372036854775807) :
    Calls Tryd.prog 8 #[.slice a l.length cap] w fun e w' => e = .returned (.tuple #[.string (printR l).1, .int .i64 (printR l).2]) ∧ Below w.heap.size w w' := by
  obtain ⟨i0, hi, hz0, hz1, hz2⟩ := info_parts Tryd.info5
  have HD := Lib.hid hl
  have HG := Lib.hid hG
  have HX := Lib.hid hx
  obtain ⟨n, hn⟩ : ∃ n, n = l.length := ⟨_, rfl⟩
  have HN : Hid (l.length = n) := hn.symm
  rw [← hn] at hll ⊢
  clear hl hG hx hn
  go_enter Tryd.func8, Tryd.ntmps8
  go_wp2
  go_loopw [11] (fun i wr => ∃ (m : Nat), i = .int .i64 m ∧ m ≤ n ∧ Hid (∀ x ∈ l.take m, mayB x.1 = true) ∧ Hid (Below w.heap.size w wr))
    (fun i _ => n - (intOf i).toNat)
  case atStart => exact ⟨0, rfl, Nat.zero_le _, Lib.hid (by simp), Below.refl _ _⟩
  case round =>
    obtain ⟨m, rfl, hm, hA, hB⟩ := hrel
    have hszr := hB.out.size
    by_cases hlt : m < n
    · have HXm : Hid (l[m]? = some (l[m]'(by rw [HN.out]; exact hlt))) := Lib.hid (List.getElem?_eq_getElem _)
      obtain ⟨x, hx⟩ : ∃ x, l[m]'(by rw [HN.out]; exact hlt) = x := ⟨_, rfl⟩
      rw [hx] at HXm
      clear hx
      have HTk : Hid (l.take (m + 1) = l.take m ++ [x]) := Lib.hid (by rw [List.take_add_one, HXm.out]; rfl)
      obtain ⟨x, ax⟩ := x
      obtain ⟨g, off, rfl, hW⟩ := HD.out m _ HXm.out
      have hW := hW.below hB.out hW.lt
      have bg := hW.lt
      obtain ⟨c0, c1, c2, c3, c4, c5, c6, c7⟩ := hW
      dsimp only at c0 c1 c2 c3 c4 c5 c6 c7
      have HB0 : Hid (Below w.heap.size w (wr.alloc (.cells (wordC x ax) 38))) := hB.out.alloc hszr _
      unfold wordC at HB0
      have HC := fun w' => Lib.hid (mayBe_any x ax w')
      have n1 : (m : Int) < (n : Int) := by omega
      cases hmb : mayB x with
      | true =>
        rw [hmb] at HC
        have HA2 : Hid (∀ y ∈ l.take (m + 1), mayB y.1 = true) := by
          refine Lib.hid ?_
          rw [HTk.out]
          intro y hy
          rw [List.mem_append] at hy
          rcases hy with hy | hy
          · exact hA.out y hy
          · rw [List.mem_singleton] at hy; rw [hy]; exact hmb
        unfold wordV wordC at HC
        clear hA HTk hmb
        go_wp2_with (go_at_call 15; refine (HC _).out.mono ?_; rintro e w3 ⟨rfl, hB3⟩)
        have HB3 := Lib.hid (HB0.out.trans (hB3.mono HB0.out.size))
        clear hB3
        go_wp2
        go_roundw
        case rel => exact ⟨m + 1, by go_num, by omega, HA2, HB3⟩
        case measure => simp [intOf]; omega
      | false =>
        rw [hmb] at HC
        have HR : Hid (printR l = (⟨#[]⟩, 2)) := by
          refine Lib.hid ?_
          unfold printR
          rw [if_neg]
          intro h
          have := List.all_eq_true.1 h _ (List.mem_of_getElem? HXm.out)
          rw [hmb] at this
          cases this
        unfold wordV wordC at HC
        clear hA HTk hmb
        go_wp2_with (go_at_call 15; refine (HC _).out.mono ?_; rintro e w3 ⟨rfl, hB3⟩)
        have HB3 := Lib.hid (HB0.out.trans (hB3.mono HB0.out.size))
        clear hB3
        go_wp2
        go_ret2
        exact ⟨by rw [HR.out]; rfl, HB3.out⟩
    · obtain rfl : m = n := by omega
      have HM : Hid (∀ x ∈ l, mayB x.1 = true) := by
        have := hA.out
        rw [List.take_of_length_le (by rw [HN.out]; exact Nat.le_refl _)] at this
        exact this
      have HP : Hid (printR l = if 1048576 < (joinW l).length then (⟨#[]⟩, 3) else (bytesStr (joinW l), 0)) := by
        refine Lib.hid ?_
        unfold printR
        rw [if_pos]
        rw [List.all_eq_true]
        exact HM.out
      have hO0 : Hid (wr.ownsRow w.heap.size 5 1 (.slice none 0 0) (joinW (l.take 0)).length ((joinW (l.take 0)).map byteV)) := by
        rw [List.take_zero]
        exact World.ownsRow_nil _ _ _ _
      have hB0 := hB
      obtain ⟨wq, hwq⟩ : ∃ wq : World, wq = wr := ⟨_, rfl⟩
      rw [← hwq] at hO0 hB0 ⊢
      clear hA hB hm hszr hwq
      go_wp2
      go_loopw [6, 21] (fun q i wr => ∃ (k : Nat), i = .int .i64 k ∧ k ≤ m ∧ Hid (wr.ownsRow w.heap.size 5 1 q (joinW (l.take k)).length ((joinW (l.take k)).map byteV)) ∧ Hid (Below w.heap.size w wr) ∧ (joinW (l.take k)).length ≤ 5000000)
        (fun _ i _ => m - (intOf i).toNat)
      case atStart => exact ⟨0, rfl, Nat.zero_le _, hO0, hB0, by rw [List.take_zero]; simp [joinW]⟩
      case round =>
        clear hO0 hB0
        obtain ⟨k, rfl, hk, hO, hB, hjm⟩ := hrel
        have hszr := hB.out.size
        have hjl := joinW_take l k
        by_cases hlt2 : k < m
        · have HXm : Hid (l[k]? = some (l[k]'(by rw [HN.out]; exact hlt2))) := Lib.hid (List.getElem?_eq_getElem _)
          obtain ⟨x, hx⟩ : ∃ x, l[k]'(by rw [HN.out]; exact hlt2) = x := ⟨_, rfl⟩
          rw [hx] at HXm
          clear hx
          have hxs := HX.out x (List.mem_of_getElem? HXm.out)
          have hmb := HM.out x (List.mem_of_getElem? HXm.out)
          have HTk : Hid (l.take (k + 1) = l.take k ++ [x]) := Lib.hid (by rw [List.take_add_one, HXm.out]; rfl)
          obtain ⟨x, ax⟩ := x
          dsimp only at hxs hmb
          obtain ⟨⟨hxa, hxb⟩, hxn0, hxn1⟩ := hxs
          have HXB : Hid (k ≠ 0 → x.txt.size ≤ 140737488351232) := Lib.hid fun h => hxb.resolve_left (by rw [HN.out]; omega)
          clear hxb
          have hw1 := wordF_long x hmb
          have hw2 := wordF_len x hxn0 hxn1
          have hjl2 := joinW_take l (k + 1)
          obtain ⟨g, off, rfl, hW⟩ := HD.out k _ HXm.out
          have hW := hW.below hB.out hW.lt
          have bg := hW.lt
          obtain ⟨c0, c1, c2, c3, c4, c5, c6, c7⟩ := hW
          dsimp only at c0 c1 c2 c3 c4 c5 c6 c7
          have n1 : (k : Int) < (m : Int) := by omega
          obtain ⟨sa, sc, rfl⟩ := own_slice hO.out
          have HB0 : Hid (Below w.heap.size w (wr.alloc (.cells (wordC x ax) 38))) := hB.out.alloc hszr _
          have HO0 : Hid ((wr.alloc (.cells (wordC x ax) 38)).ownsRow w.heap.size 5 1 (.slice sa (joinW (l.take k)).length sc) (joinW (l.take k)).length ((joinW (l.take k)).map byteV)) := hO.out.alloc _
          have hsz0 : w.heap.size ≤ (wr.alloc (.cells (wordC x ax) 38)).heap.size := HB0.out.size
          by_cases hk0 : k = 0
          · have hsn : joinW (l.take (k + 1)) = joinW (l.take k) ++ wordF x := by rw [HTk.out, hk0, List.take_zero]; simp [joinW, tailW]
            have hlen := congrArg List.length hsn
            rw [List.length_append] at hlen
            have n0 : ¬ (0 : Int) < (k : Int) := by omega
            have hj0 : (joinW (l.take k)).length ≤ 0 := by rw [hk0]; simp [joinW]
            have HC := fun hsm : x.txt.size ≤ 1048576 => Lib.hid (appendWord_any (.slice sa (joinW (l.take k)).length sc) (joinW (l.take k)) x ax hsm hxn0 hxn1 w.heap.size (wr.alloc (.cells (wordC x ax) 38)) (HG.out.above HG.out.big HB0.out) HG.out.big HO0.out hsz0 (by omega))
            rw [← hsn] at HC
            clear hO HTk hsn hk0
            unfold wordC at HO0 HB0 hsz0 HC
            unfold wordV wordC at HC
            by_cases hbig : 1048576 < (joinW (l.take k)).length + x.txt.size
            · have n2 : (1048576 : Int) < ((joinW (l.take k)).length : Int) + (x.txt.size : Int) := by omega
              have HR : Hid (printR l = (⟨#[]⟩, 3)) := Lib.hid (HP.out.trans (if_pos (by omega)))
              clear HC
              go_wp2
              go_ret2
              exact ⟨by rw [HR.out]; rfl, HB0.out⟩
            · have n2 : ¬ (1048576 : Int) < ((joinW (l.take k)).length : Int) + (x.txt.size : Int) := by omega
              have HC := HC (by omega)
              go_wp2_with (go_at_call 16; refine HC.out.mono ?_; rintro e w3 ⟨v3, rfl, hown3, hk3, hB3⟩)
              have HO3 := Lib.hid hown3
              have HB3 := Lib.hid (HB0.out.trans hB3)
              clear hown3 hk3 hB3 HC HO0 HB0
              go_wp2
              go_roundw
              case rel => exact ⟨k + 1, by go_num, by omega, HO3, HB3, by omega⟩
              case measure => simp [intOf]; omega
          · have hne : l.take k ≠ [] := fun h => by
              have := congrArg List.length h
              rw [List.length_take, HN.out] at this
              simp at this
              omega
            have hsn : joinW (l.take (k + 1)) = joinW (l.take k) ++ [32] ++ wordF x := by rw [HTk.out]; exact joinW_snoc _ _ hne
            have hlen := congrArg List.length hsn
            rw [List.length_append, List.length_append, List.length_singleton] at hlen
            have n0 : (0 : Int) < (k : Int) := by omega
            have hxc := HXB.out hk0
            have HC := fun (hsm : x.txt.size ≤ 1048576) (w1 : World) (v1 : Value) (hB1 : Below w.heap.size w w1) (ho : w1.ownsRow w.heap.size 5 1 v1 ((joinW (l.take k)).length + 1) ((joinW (l.take k)).map byteV ++ [.int .u8 32])) =>
              Lib.hid (appendWord_any v1 (joinW (l.take k) ++ [32]) x ax hsm hxn0 hxn1 w.heap.size w1 (HG.out.above HG.out.big hB1) HG.out.big (by rw [List.length_append, List.map_append]; exact ho) hB1.size (by rw [List.length_append, List.length_singleton]; omega))
            rw [← hsn] at HC
            clear hO HTk hsn hne
            have HW := Lib.hid (Blk.new wr 38 (wordC x ax))
            unfold wordC at HO0 HB0 hsz0 HW
            unfold wordV wordC at HC
            by_cases hbig : 1048576 < (joinW (l.take k)).length + 1 + x.txt.size
            · have n2 : (1048576 : Int) < ((joinW (l.take k)).length : Int) + 1 + (x.txt.size : Int) := by omega
              have HR : Hid (printR l = (⟨#[]⟩, 3)) := Lib.hid (HP.out.trans (if_pos (by omega)))
              clear HC
              go_wp2_with (at_builtin; refine wpList_append_own _ rfl _ _ 22 rfl w.heap.size 5 i0 (.int .u8 0) 1 1 Tryd.underlying22 hi hz0 hz1 hz2 rfl (by decide) _ _ _ rfl (HO0.out.alloc _) ⟨wr.heap.size + 1, 0, none⟩ 1 1 [.int .u8 32] rfl rfl (cell_one_next _ _ _ _) (by simp [Value.oneCell']) (by unfold maxLen; omega) (by omega) (by simp; omega) ?_; intro v1 w1 hown1 hgrow _; have hf2 := own_fin (HO0.out.alloc (.cells #[.int .u8 32] 5)) ((Lib.OthersKept.refl 5 none _).alloc _) ((Below.refl w.heap.size _).alloc hsz0 _) hsz0 hgrow; have hb2 := blk_others HW.out (by decide) hf2.1; have d0 : w1.cell? ⟨wr.heap.size, 0, none⟩ = some (.int .i64 x.kind) := hb2.cell 0; have d1 : w1.cell? ⟨wr.heap.size, 1, none⟩ = some (.int .i64 ax) := hb2.cell 1; have d2 : w1.cell? ⟨wr.heap.size, 2, none⟩ = some (.string x.txt) := hb2.cell 2; have d3 : w1.cell? ⟨wr.heap.size, 3, none⟩ = some (.int .u64 (wdI x.set 0)) := hb2.cell 3; have d4 : w1.cell? ⟨wr.heap.size, 4, none⟩ = some (.int .u64 (wdI x.set 1)) := hb2.cell 4; have d5 : w1.cell? ⟨wr.heap.size, 5, none⟩ = some (.int .u64 (wdI x.set 2)) := hb2.cell 5; have d6 : w1.cell? ⟨wr.heap.size, 6, none⟩ = some (.int .u64 (wdI x.set 3)) := hb2.cell 6; have d7 : w1.cell? ⟨wr.heap.size, 7, none⟩ = some (.int .i64 x.num) := hb2.cell 7; obtain ⟨sb, sd, rfl⟩ := own_slice hown1)
              go_ret2
              exact ⟨by rw [HR.out]; rfl, HB0.out.trans hf2.2⟩
            · have n2 : ¬ (1048576 : Int) < ((joinW (l.take k)).length : Int) + 1 + (x.txt.size : Int) := by omega
              have HC := HC (by omega)
              go_wp2_with (first
                | (at_builtin; refine wpList_append_own _ rfl _ _ 22 rfl w.heap.size 5 i0 (.int .u8 0) 1 1 Tryd.underlying22 hi hz0 hz1 hz2 rfl (by decide) _ _ _ rfl (HO0.out.alloc _) ⟨wr.heap.size + 1, 0, none⟩ 1 1 [.int .u8 32] rfl rfl (cell_one_next _ _ _ _) (by simp [Value.oneCell']) (by unfold maxLen; omega) (by omega) (by simp; omega) ?_; intro v1 w1 hown1 hgrow _; have hf2 := own_fin (HO0.out.alloc (.cells #[.int .u8 32] 5)) ((Lib.OthersKept.refl 5 none _).alloc _) ((Below.refl w.heap.size _).alloc hsz0 _) hsz0 hgrow; have hb2 := blk_others HW.out (by decide) hf2.1; have d0 : w1.cell? ⟨wr.heap.size, 0, none⟩ = some (.int .i64 x.kind) := hb2.cell 0; have d1 : w1.cell? ⟨wr.heap.size, 1, none⟩ = some (.int .i64 ax) := hb2.cell 1; have d2 : w1.cell? ⟨wr.heap.size, 2, none⟩ = some (.string x.txt) := hb2.cell 2; have d3 : w1.cell? ⟨wr.heap.size, 3, none⟩ = some (.int .u64 (wdI x.set 0)) := hb2.cell 3; have d4 : w1.cell? ⟨wr.heap.size, 4, none⟩ = some (.int .u64 (wdI x.set 1)) := hb2.cell 4; have d5 : w1.cell? ⟨wr.heap.size, 5, none⟩ = some (.int .u64 (wdI x.set 2)) := hb2.cell 5; have d6 : w1.cell? ⟨wr.heap.size, 6, none⟩ = some (.int .u64 (wdI x.set 3)) := hb2.cell 6; have d7 : w1.cell? ⟨wr.heap.size, 7, none⟩ = some (.int .i64 x.num) := hb2.cell 7; obtain ⟨sb, sd, rfl⟩ := own_slice hown1)
                | (go_at_call 16; refine (HC _ _ (HB0.out.trans hf2.2) hown1).out.mono ?_; rintro e w3 ⟨v3, rfl, hown3, hk3, hB3⟩))
              have HO3 := Lib.hid hown3
              have HB3 := Lib.hid ((HB0.out.trans hf2.2).trans hB3)
              clear hown3 hk3 hB3 HC HO0 HB0
              go_wp2
              go_roundw
              case rel => exact ⟨k + 1, by go_num, by omega, HO3, HB3, by omega⟩
              case measure => simp [intOf]; omega
        · obtain rfl : k = m := by omega
          have hjt : joinW (l.take k) = joinW l := by rw [List.take_of_length_le (by rw [HN.out]; exact Nat.le_refl _)]
          rw [hjt] at hO
          clear hjt hjl hjm
          obtain ⟨sa, sc, rfl⟩ := own_slice hO.out
          have hcv := conv_owns hO.out
          by_cases hbig : 1048576 < (joinW l).length
          · have n2 : (1048576 : Int) < ((joinW l).length : Int) := by omega
            have HR : Hid (printR l = (⟨#[]⟩, 3)) := Lib.hid (HP.out.trans (if_pos hbig))
            go_wp2
            go_ret2
            exact ⟨by rw [HR.out]; rfl, hB.out⟩
          · have n2 : ¬ (1048576 : Int) < ((joinW l).length : Int) := by omega
            have HR : Hid (printR l = (bytesStr (joinW l), 0)) := Lib.hid (HP.out.trans (if_neg hbig))
            go_wp2
            go_ret2
            exact ⟨by rw [HR.out]; rfl, hB.out⟩
end Go.Proofs.YtdodkbpagbblmaaDoor
end
section
namespace Go.Proofs.YtdodkbpagbblmaaDoor
open Go Go.RowKit

theorem lex_ok (t : ByteArray) (ws : List (Wd × Nat)) (h : lexAt t.data.toList 0 = (ws, none)) (ht : t.size ≤ 1048576) (w : World) (hG : GlobD w) :
    Calls Tryd.prog 7 #[.string t] w fun e w' => ∃ v, e = .returned (.tuple #[v, .int .i64 0, .int .i64 0]) ∧ w'.ownsRow w.heap.size 38 8 v ws.length (cellsW ws) ∧ Below w.heap.size w w' := by
  refine (lex_any t w hG).mono ?_
  rintro e w' ⟨hB, h1 | h1 | h1⟩
  · omega
  · obtain ⟨_, a, ha, _⟩ := h1
    rw [h] at ha
    cases ha
  · obtain ⟨_, _, v, he, ho⟩ := h1
    rw [h] at ho
    exact ⟨v, he, ho, hB⟩
theorem lex_bad (t : ByteArray) (a : Nat) (h : (lexAt t.data.toList 0).2 = some a) (ht : t.size ≤ 1048576) (w : World) (hG : GlobD w) :
    Calls Tryd.prog 7 #[.string t] w fun e w' => e = .returned (.tuple #[.slice none 0 0, .int .i64 a, .int .i64 130]) ∧ Below w.heap.size w w' := by
  refine (lex_any t w hG).mono ?_
  rintro e w' ⟨hB, h1 | h1 | h1⟩
  · omega
  · obtain ⟨_, b, hb, he⟩ := h1
    rw [h] at hb
    cases hb
    exact ⟨he, hB⟩
  · obtain ⟨_, h2, _⟩ := h1
    rw [h] at h2
    cases h2

/-- Words with their places as numbers. -/
def withI (ws : List (Wd × Nat)) : List (Wd × Int) := ws.map fun p => (p.1, (p.2 : Int))
theorem cellsW_at (ws : List (Wd × Nat)) : ∀ (i : Nat) (x : Wd × Nat), ws[i]? = some x → ∀ j, j < 8 → (cellsW ws)[i * 8 + j]? = (wcells x)[j]? := by
  induction ws with
  | nil => intro i x hx; simp at hx
  | cons r rs ih =>
    intro i x hx j hj
    have hc : cellsW (r :: rs) = wcells r ++ cellsW rs := by simp [cellsW]
    rw [hc]
    cases i with
    | zero =>
      simp at hx
      subst hx
      rw [Nat.zero_mul, Nat.zero_add, List.getElem?_append_left (by simp [wcells]; omega)]
    | succ i =>
      have h := ih i x (by simpa using hx) j hj
      rw [List.getElem?_append_right (by simp [wcells]; omega), ← h]
      congr 1
      simp [wcells]
      omega
/-- Words as they lie behind a slice that owns them. -/
theorem own_rowW {w : World} {n₀ : Nat} {v : Value} {ws : List (Wd × Nat)} (h : w.ownsRow n₀ 38 8 v ws.length (cellsW ws)) : ∃ a cap, v = .slice a ws.length cap ∧ RowW w a (withI ws) := by
  rcases h.2 with ⟨rfl, h0⟩ | ⟨g, cap, cur, rfl, _⟩
  · have : ws = [] := List.length_eq_zero_iff.1 h0
    subst this
    exact ⟨none, 0, rfl, fun i x hx => by simp [withI] at hx⟩
  · refine ⟨_, cap, rfl, fun i x hx => ?_⟩
    obtain ⟨y, hy, rfl⟩ : ∃ y, ws[i]? = some y ∧ (y.1, (y.2 : Int)) = x := by
      unfold withI at hx
      rw [List.getElem?_map] at hx
      simpa using hx
    have hi := (List.getElem?_eq_some_iff.1 hy).1
    have hc := cellsW_at ws i y hy
    have k : ∀ j, j < 8 → w.cell? ⟨g, 0 + i * 8 + j, none⟩ = (wcells y)[j]? := fun j hj => by
      rw [Nat.zero_add, h.cellAt (i * 8 + j) (by omega)]; exact hc j hj
    exact ⟨g, 0, rfl, k 0 (by omega), k 1 (by omega), k 2 (by omega), k 3 (by omega), k 4 (by omega), k 5 (by omega), k 6 (by omega), k 7 (by omega)⟩
theorem withI_len (ws : List (Wd × Nat)) : (withI ws).length = ws.length := by simp [withI]

theorem num_any (n : Int) (w : World) : Calls Tryd.prog 10 #[.int .i64 n] w fun e w' => e = .returned (.int .i64 n) ∧ w = w' := by
  go_enter Tryd.func10, Tryd.ntmps10
  go_wp2
  go_ret
  simp
end Go.Proofs.YtdodkbpagbblmaaDoor
end
section
namespace Go.Proofs.YtdodkbpagbblmaaDoor
open Go Go.RowKit

theorem sameW_eq (x y : Wd) : sameW x y = (x.kind == y.kind && (x.txt.data.toList == y.txt.data.toList && (x.set == y.set && x.num == y.num))) := by
  unfold sameW
  rw [ByteArray.toList_eq, ByteArray.toList_eq]

def kSet : BS := (readS [91, 92, 93, 45, 126, 93]).getD 0#256
/-- The words of the law's own text. -/
def kWs : List (Wd × Nat) := [(⟨1, ⟨#[97, 49]⟩, 0#256, 0⟩, 0), (⟨5, ⟨#[61]⟩, 0#256, 0⟩, 2), (⟨2, ⟨#[120]⟩, 0#256, 0⟩, 3), (⟨3, ⟨#[]⟩, kSet, 0⟩, 6), (⟨4, ⟨#[]⟩, 0#256, 2⟩, 12), (⟨5, ⟨#[59]⟩, 0#256, 0⟩, 13)]
theorem k_lex : lexAt (⟨#[97, 49, 61, 34, 120, 34, 91, 92, 93, 45, 126, 93, 50, 59, 47, 47, 120]⟩ : ByteArray).data.toList 0 = (kWs, none) := by kernel_rfl
theorem k_bad : (lexAt (⟨#[98, 32, 34, 97]⟩ : ByteArray).data.toList 0).2 = some 2 := by kernel_rfl
theorem k_name : nameB (⟨#[97, 49]⟩ : ByteArray).data.toList = true := by kernel_rfl
theorem k_may : (withI kWs).all (fun x => mayB x.1) = true := by
  have h : (fun x : Wd × Int => mayB x.1) = fun x => okW x.1 && (x.1.kind == (bareW x.1).kind && (x.1.txt.data.toList == (bareW x.1).txt.data.toList && (x.1.set == (bareW x.1).set && x.1.num == (bareW x.1).num))) := by
    funext x
    unfold mayB
    rw [sameW_eq]
  rw [h]
  decide +kernel
theorem k_join : joinW (withI kWs) = [97, 49, 32, 61, 32, 34, 120, 34, 32, 91, 92, 93, 45, 126, 93, 32, 50, 32, 59] := by decide +kernel
theorem k_print : printR (withI kWs) = (⟨#[97, 49, 32, 61, 32, 34, 120, 34, 32, 91, 92, 93, 45, 126, 93, 32, 50, 32, 59]⟩, 0) := by
  unfold printR
  rw [if_pos k_may, k_join]
  rfl
end Go.Proofs.YtdodkbpagbblmaaDoor
end
section
namespace Go.Proofs.YtdodkbpagbblmaaDoor
open Go Go.RowKit

theorem all_any (t : ByteArray) (w : World) : Calls Tryd.prog 9 #[.string t] w fun e w' => e = .returned (.func (.func 17) #[] #[.pointer (some ⟨w.heap.size, 0, none⟩)]) ∧ w' = w.alloc (.cells #[.string t] 9) := by
  have hmf : ∀ (fn : Fn) (first cap : Array Value) (w : World), (Instr.makeFunc fn first cap).run Tryd.prog w = .ok (.func fn first cap) w := fun _ _ _ _ => rfl
  go_enter Tryd.func9, Tryd.ntmps9
  go_wp2
  go_ret
  exact ⟨rfl, rfl⟩
theorem neq_func (a : Value) (w : World) : (binOp .neq 30 (.func (.func 17) #[] #[a]) .nilFunc).run Tryd.prog w = .ok (.bool true) w := by kernel_rfl
theorem k_num (w : World) : (Op.equalIn 10000 38 (.agg #[.int .i64 4, .int .i64 12, .string ⟨#[]⟩, .int .u64 0, .int .u64 0, .int .u64 0, .int .u64 0, .int .i64 2]) (.agg #[.int .i64 4, .int .i64 12, .string ⟨#[]⟩, .int .u64 0, .int .u64 0, .int .u64 0, .int .u64 0, .int .i64 2])).run Tryd.prog w = .ok true w := by
  have h := eq_wds 9996 ⟨4, ⟨#[]⟩, 0#256, 2⟩ ⟨4, ⟨#[]⟩, 0#256, 2⟩ 12 12 w
  have e : ((4 : Int) == 4 && ((12 : Int) == 12 && ((⟨#[]⟩ : ByteArray).toList == (⟨#[]⟩ : ByteArray).toList && ((0#256 : BS) == 0#256 && (2 : Int) == 2)))) = true := by simp
  dsimp only at h
  rw [e] at h
  unfold wordV wordC at h
  obtain ⟨z0, z1, z2, z3⟩ := wz
  dsimp only at h
  rw [z0, z1, z2, z3] at h
  exact h

set_option maxRecDepth 100000 in
set_option maxHeartbeats 4000000 in
theorem works_any (w : World) (hG : GlobD w) : Calls Tryd.prog 11 #[] w fun e w' => e = .returned (.bool true) ∧ Below w.heap.size w w' := by
  have HG := Lib.hid hG
  have HE := k_num
  have HNF := neq_func
  have H1 := Lib.hid (lex_ok ⟨#[97, 49, 61, 34, 120, 34, 91, 92, 93, 45, 126, 93, 50, 59, 47, 47, 120]⟩ kWs k_lex (by decide) w hG)
  have H3 := Lib.hid (fun W hW => lex_bad ⟨#[98, 32, 34, 97]⟩ 2 k_bad (by decide) W hW)
  have H5 := Lib.hid (fun W => name_any ⟨#[97, 49]⟩ (by decide) W)
  rw [k_name] at H5
  clear hG
  go_enter Tryd.func11, Tryd.ntmps11
  go_wp2_with fail
  refine H1.out.mono ?_
  rintro e w1 ⟨v1, rfl, hown1, hB1⟩
  have hown1 : w1.ownsRow w.heap.size 38 8 v1 (5 + 1) (cellsW kWs) := hown1
  obtain ⟨g, c, rfl⟩ := ownsRow_succ hown1
  obtain ⟨a', cap', hsl, hrow⟩ := own_rowW (ws := kWs) hown1
  cases hsl
  have hG1 := HG.out.below (Nat.le_refl _) hB1
  have H2 : Hid (Calls Tryd.prog 8 #[.slice (some ⟨g, 0, none⟩) 6 c] w1 fun e w' => e = .returned (.tuple #[.string ⟨#[97, 49, 32, 61, 32, 34, 120, 34, 32, 91, 92, 93, 45, 126, 93, 32, 50, 32, 59]⟩, .int .i64 0]) ∧ Below w1.heap.size w1 w') := by
    refine Lib.hid ?_
    have h := print_any (some ⟨g, 0, none⟩) c (withI kWs) w1 hG1 hrow (by decide) (by decide +kernel)
    rw [k_print] at h
    exact h
  have hk : ∀ j, j < 48 → w1.cell? ⟨g, j, none⟩ = (cellsW kWs)[j]? := fun j hj => hown1.cellAt j (by omega)
  have HO1 := Lib.hid hown1
  have HG1 := Lib.hid hG1
  have HB1 := Lib.hid hB1
  clear hown1 hrow hG1 hB1 H1
  go_wp2_with fail
  refine H2.out.mono ?_
  rintro e w2 ⟨rfl, hB2⟩
  have HO2 := Lib.hid (own_below HO1.out hB2 (Nat.le_refl _))
  have HG2 := Lib.hid (HG1.out.below (Nat.le_refl _) hB2)
  have HB2 := Lib.hid (HB1.out.trans (hB2.mono HB1.out.size))
  clear HO1 HG1 HB1 H2 hB2 hk
  go_wp2_with fail
  refine (H3.out _ HG2.out).mono ?_
  rintro e w3 ⟨rfl, hB3⟩
  have hO3 := own_below HO2.out hB3 (Nat.le_refl _)
  have HB3 := Lib.hid (HB2.out.trans (hB3.mono HB2.out.size))
  have hk : ∀ j, j < 48 → w3.cell? ⟨g, j, none⟩ = (cellsW kWs)[j]? := fun j hj => hO3.cellAt j (by omega)
  have d0 : w3.cell? ⟨g, 32, none⟩ = some (.int .i64 4) := (hk 32 (by omega)).trans (by kernel_rfl)
  have d1 : w3.cell? ⟨g, 33, none⟩ = some (.int .i64 12) := (hk 33 (by omega)).trans (by kernel_rfl)
  have d2 : w3.cell? ⟨g, 34, none⟩ = some (.string ⟨#[]⟩) := (hk 34 (by omega)).trans (by kernel_rfl)
  have d3 : w3.cell? ⟨g, 35, none⟩ = some (.int .u64 0) := (hk 35 (by omega)).trans (by kernel_rfl)
  have d4 : w3.cell? ⟨g, 36, none⟩ = some (.int .u64 0) := (hk 36 (by omega)).trans (by kernel_rfl)
  have d5 : w3.cell? ⟨g, 37, none⟩ = some (.int .u64 0) := (hk 37 (by omega)).trans (by kernel_rfl)
  have d6 : w3.cell? ⟨g, 38, none⟩ = some (.int .u64 0) := (hk 38 (by omega)).trans (by kernel_rfl)
  have d7 : w3.cell? ⟨g, 39, none⟩ = some (.int .i64 2) := (hk 39 (by omega)).trans (by kernel_rfl)
  clear hk hO3 HO2 HG2 HB2 hB3
  go_wp2_with (first
    | (go_at_call 10; refine (num_any _ _).mono ?_; rintro e w' ⟨rfl, rfl⟩)
    | (go_at_call 9; refine (all_any _ _).mono ?_; rintro e w' ⟨rfl, rfl⟩)
    | (go_at_call 18; refine (H5.out _).mono ?_; rintro e w' ⟨rfl, rfl⟩))
  go_ret
  exact ⟨rfl, HB3.out.alloc HB3.out.size _⟩
end Go.Proofs.YtdodkbpagbblmaaDoor
end
section
namespace Go.Proofs.YtdodkbpagbblmaaDoor
open Go Go.RowKit

/-! ### a text, a line's end, another text -/
theorem runL_nl (l b : List UInt8) : runL (l ++ 10 :: b) = runL l := by
  induction l with
  | nil => rw [List.nil_append, runL_cons, if_neg (by decide)]; rfl
  | cons c r ih => rw [List.cons_append, runL_cons, runL_cons, ih]
theorem lineL_nl (l b : List UInt8) : lineL (l ++ 10 :: b) = lineL l := by
  induction l with
  | nil => rfl
  | cons c r ih =>
    rw [List.cons_append]
    unfold lineL
    rw [ih]
theorem hexD_nl : hexD (10 : UInt8).toNat = none := by decide
theorem escD_cons (a b : UInt8) (r : List UInt8) : escD (a :: b :: r) = if b.toNat = 110 then (10, 2) else if b.toNat = 116 then (9, 2) else if b.toNat = 114 then (13, 2) else if b.toNat = 34 ∨ b.toNat = 92 then (b.toNat, 2)
    else if b.toNat = 120 ∧ 2 ≤ r.length then (match hexs 0 (r.take 2) with
      | some n => (n % 256, 4)
      | none => (0, 0))
    else (0, 0) := rfl
theorem byteD_cons (c : UInt8) (r : List UInt8) : byteD (c :: r) = if c.toNat = 92 then escD (c :: r) else if 32 ≤ c.toNat ∧ c.toNat ≤ 126 then (c.toNat, 1) else (0, 0) := rfl
theorem escD_nl (c : UInt8) (r b : List UInt8) : escD (c :: (r ++ 10 :: b)) = escD (c :: r) := by
  match r with
  | [] => rfl
  | [d] =>
    have h : ∀ x, hexs 0 ((10 :: x : List UInt8).take 2) = none := fun x => rfl
    show escD (c :: d :: 10 :: b) = escD [c, d]
    rw [escD_cons, escD_cons, h]
    simp
  | [d, e] =>
    have h : hexs 0 ((e :: 10 :: b : List UInt8).take 2) = none := by
      show (match hexD e.toNat with | none => none | some q => hexs (0 * 16 + q) [10]) = none
      cases hexD e.toNat with
      | none => rfl
      | some q => rfl
    show escD (c :: d :: e :: 10 :: b) = escD [c, d, e]
    rw [escD_cons, escD_cons, h]
    simp
  | d :: e :: f :: r =>
    show escD (c :: d :: e :: f :: (r ++ 10 :: b)) = escD (c :: d :: e :: f :: r)
    rw [escD_cons, escD_cons]
    simp
theorem byteD_nl (l b : List UInt8) : byteD (l ++ 10 :: b) = byteD l := by
  cases l with
  | nil => rfl
  | cons c r =>
    rw [List.cons_append]
    rw [byteD_cons, byteD_cons, escD_nl]
theorem pre34_nl (l b : List UInt8) : Lib.hasPrefix (l ++ 10 :: b) [34] = Lib.hasPrefix l [34] := by
  cases l with
  | nil => rfl
  | cons c r => simp [Lib.hasPrefix, List.isPrefixOf]
theorem textF_nl (b : List UInt8) : ∀ (f : Nat) (l : List UInt8), textF f (l ++ 10 :: b) = textF f l := by
  intro f
  induction f with
  | zero => intro l; rfl
  | succ f ih =>
    intro l
    unfold textF
    rw [pre34_nl, byteD_nl, List.drop_append_of_le_length (byteD_lt l).2, ih]
theorem textO_nl (l b : List UInt8) : textO (l ++ 10 :: b) = textO l := by
  unfold textO
  rw [textF_nl]
  exact textF_more _ l (Nat.le_refl _) _ (by simp)
theorem numO_nl (l b : List UInt8) : numO (l ++ 10 :: b) = numO l := by
  unfold numO
  rw [runL_nl, List.take_append_of_le_length (runL_le l)]
theorem setL_nl (b : List UInt8) : ∀ (n : Nat) (l : List UInt8), l.length ≤ n → (setL l ≠ 0 → setL (l ++ 10 :: b) = setL l) ∧ (setL l = 0 → setL (l ++ 10 :: b) = 0 ∨ l.length < setL (l ++ 10 :: b)) := by
  intro n
  induction n with
  | zero =>
    intro l h
    have : l = [] := List.length_eq_zero_iff.1 (by omega)
    subst this
    exact ⟨fun h => absurd rfl h, fun _ => by simp only [List.nil_append, List.length_nil]; omega⟩
  | succ n ih =>
    intro l h
    match l, h with
    | [], _ => exact ⟨fun h => absurd rfl h, fun _ => by simp only [List.nil_append, List.length_nil]; omega⟩
    | [c], _ =>
      have e1 : setL ([c] ++ 10 :: b) = if c.toNat = 92 then (if setL b = 0 then 0 else setL b + 2) else if c.toNat = 93 then 1 else if setL (10 :: b) = 0 then 0 else setL (10 :: b) + 1 := by
        show setL (c :: 10 :: b) = _
        rw [setL_cons]
      have e2 : setL [c] = if c.toNat = 92 then 0 else if c.toNat = 93 then 1 else 0 := by
        rw [setL_cons]
        simp [setL]
      rw [e1, e2]
      simp only [List.length_singleton]
      refine ⟨fun h => ?_, fun h => ?_⟩
      · split at h
        · exact absurd rfl h
        · split at h
          · rename_i h1 h2
            rw [if_neg h1, if_pos h2, if_neg h1, if_pos h2]
          · exact absurd rfl h
      · split
        · split <;> omega
        · split
          · rename_i h1 h2
            rw [if_neg h1, if_pos h2] at h
            omega
          · split <;> omega
    | c :: d :: r, h =>
      have h1 := ih r (by simp at h; omega)
      have h2 := ih (d :: r) (by simp at h ⊢; omega)
      have e1 : setL (c :: d :: r ++ 10 :: b) = if c.toNat = 92 then (if setL (r ++ 10 :: b) = 0 then 0 else setL (r ++ 10 :: b) + 2) else if c.toNat = 93 then 1 else if setL (d :: r ++ 10 :: b) = 0 then 0 else setL (d :: r ++ 10 :: b) + 1 := by
        show setL (c :: d :: (r ++ 10 :: b)) = _
        rw [setL_cons]
        rfl
      have e2 : setL (c :: d :: r) = if c.toNat = 92 then (if setL r = 0 then 0 else setL r + 2) else if c.toNat = 93 then 1 else if setL (d :: r) = 0 then 0 else setL (d :: r) + 1 := by
        rw [setL_cons]
      rw [e1, e2]
      simp only [List.length_cons] at *
      refine ⟨fun h => ?_, fun h => ?_⟩
      · split
        · rename_i hc
          rw [if_pos hc] at h
          by_cases h0 : setL r = 0
          · rw [if_pos h0] at h; exact absurd rfl h
          · rw [h1.1 h0]
        · rename_i hc
          rw [if_neg hc] at h
          split
          · rfl
          · rename_i hd
            rw [if_neg hd] at h
            by_cases h0 : setL (d :: r) = 0
            · rw [if_pos h0] at h; exact absurd rfl h
            · rw [h2.1 h0]
      · split
        · rename_i hc
          rw [if_pos hc] at h
          by_cases h0 : setL r = 0
          · have := h1.2 h0
            split <;> omega
          · rw [if_neg h0] at h; omega
        · rename_i hc
          rw [if_neg hc] at h
          split
          · rename_i hd
            rw [if_pos hd] at h; omega
          · rename_i hd
            rw [if_neg hd] at h
            by_cases h0 : setL (d :: r) = 0
            · have := h2.2 h0
              split <;> omega
            · rw [if_neg h0] at h; omega

/-! ### no set's text has a line's end in it -/
theorem hexs_no10 : ∀ (l : List UInt8) (n m : Nat), hexs n l = some m → 10 ∉ l := by
  intro l
  induction l with
  | nil => intro n m _ h; cases h
  | cons c l ih =>
    intro n m h hm
    unfold hexs at h
    rcases List.mem_cons.1 hm with rfl | hm
    · rw [hexD_nl] at h; cases h
    · split at h
      · cases h
      · exact ih _ _ h hm
theorem ne10 {c : UInt8} (h : c.toNat ≠ 10) : c ≠ 10 := fun e => h (by rw [e]; rfl)
theorem byteB_cons (c : UInt8) (r : List UInt8) : byteB (c :: r) = if c.toNat = 92 then escB (c :: r) else if 32 ≤ c.toNat ∧ c.toNat ≤ 126 ∧ signB c.toNat = false then (c.toNat, 1) else (0, 0) := rfl
theorem escB_cons (a b : UInt8) (r : List UInt8) : escB (a :: b :: r) = if b.toNat = 116 then (9, 2) else if b.toNat = 110 then (10, 2) else if b.toNat = 114 then (13, 2) else if signB b.toNat then (b.toNat, 2)
    else if b.toNat = 120 ∧ 2 ≤ r.length then (match hexs 0 (r.take 2) with
      | some n => (n % 256, 4)
      | none => (0, 0))
    else (0, 0) := rfl
theorem two_no10 (c d : UInt8) (r : List UInt8) (hc : c ≠ 10) (hd : d ≠ 10) : 10 ∉ (c :: d :: r).take 2 := by
  simp [Ne.symm hc, Ne.symm hd]
theorem byteB_no10 (l : List UInt8) : 10 ∉ l.take (byteB l).2 := by
  cases l with
  | nil => simp
  | cons c r =>
    rw [byteB_cons]
    by_cases hc : c.toNat = 92
    · rw [if_pos hc]
      have hc' : c ≠ 10 := ne10 (by omega)
      cases r with
      | nil => simp [escB]
      | cons d r =>
        rw [escB_cons]
        by_cases d1 : d.toNat = 116
        · rw [if_pos d1]; exact two_no10 c d r hc' (ne10 (by omega))
        · rw [if_neg d1]
          by_cases d2 : d.toNat = 110
          · rw [if_pos d2]; exact two_no10 c d r hc' (ne10 (by omega))
          · rw [if_neg d2]
            by_cases d3 : d.toNat = 114
            · rw [if_pos d3]; exact two_no10 c d r hc' (ne10 (by omega))
            · rw [if_neg d3]
              cases d4 : signB d.toNat with
              | true =>
                rw [if_pos rfl]
                exact two_no10 c d r hc' (ne10 fun e => by rw [e] at d4; exact absurd d4 (by decide))
              | false =>
                rw [if_neg (by simp)]
                by_cases d5 : d.toNat = 120 ∧ 2 ≤ r.length
                · rw [if_pos d5]
                  have hd' : d ≠ 10 := ne10 (by omega)
                  cases hh : hexs 0 (r.take 2) with
                  | none => simp
                  | some n =>
                    have := hexs_no10 _ _ _ hh
                    show 10 ∉ (c :: d :: r).take 4
                    rw [List.take_succ_cons, List.take_succ_cons, List.mem_cons, List.mem_cons]
                    rintro (h | h | h)
                    · exact hc' h.symm
                    · exact hd' h.symm
                    · exact this h
                · rw [if_neg d5]; simp
    · rw [if_neg hc]
      by_cases h2 : 32 ≤ c.toNat ∧ c.toNat ≤ 126 ∧ signB c.toNat = false
      · rw [if_pos h2]
        have : c ≠ 10 := ne10 (by omega)
        simp [Ne.symm this]
      · rw [if_neg h2]; simp
theorem take_add_mem (l : List UInt8) (a b : Nat) (x : UInt8) (h : x ∈ l.take (a + b)) : x ∈ l.take a ∨ x ∈ (l.drop a).take b := by
  rw [List.take_add, List.mem_append] at h
  exact h
theorem itemB_no10 (l : List UInt8) : 10 ∉ l.take (itemB l).2 := by
  have h1 := byteB_no10 l
  have h2 := byteB_no10 (l.drop ((byteB l).2 + 1))
  unfold itemB
  split
  · exact h1
  · rename_i hp
    split
    · simp
    · intro h
      rcases take_add_mem l _ _ _ h with h | h
      · rcases take_add_mem l _ _ _ h with h | h
        · exact h1 h
        · have hp2 : Lib.hasPrefix (l.drop (byteB l).2) [45] = true := by
            cases hq : Lib.hasPrefix (l.drop (byteB l).2) [45] with
            | true => rfl
            | false => exact absurd (.inr hq) hp
          revert h hp2
          generalize l.drop (byteB l).2 = m
          intro h hp2
          cases m with
          | nil => simp at h
          | cons c m =>
            simp at h
            subst h
            simp [Lib.hasPrefix, List.isPrefixOf] at hp2
      · exact h2 h
theorem readItems_no10 : ∀ (f : Nat) (s : BS) (l : List UInt8), 10 ∈ l → readItems f s l = none := by
  intro f
  induction f with
  | zero => intro s l _; rfl
  | succ f ih =>
    intro s l h
    unfold readItems
    rw [if_neg (fun e => by rw [e] at h; simp at h)]
    split
    · rfl
    · refine ih _ _ ?_
      have h3 := itemB_no10 l
      have h4 : 10 ∈ l.take (itemB l).2 ++ l.drop (itemB l).2 := by rw [List.take_append_drop]; exact h
      rcases List.mem_append.1 h4 with h4 | h4
      · exact absurd h4 h3
      · exact h4
theorem readS_no10 (l : List UInt8) (h : 10 ∈ l) : readS l = none := by
  have k : ∀ (c : UInt8) (l : List UInt8), c ≠ 10 → 10 ∈ l → 10 ∈ Lib.trimPrefix l [c] := by
    intro c l hc h
    cases l with
    | nil => cases h
    | cons d l =>
      unfold Lib.trimPrefix
      split
      · rename_i hp
        simp [Lib.hasPrefix, List.isPrefixOf] at hp
        rcases List.mem_cons.1 h with h | h
        · exact absurd (hp.trans h.symm) hc
        · exact h
      · exact h
  have h1 := k 91 l (by decide) h
  have h2 := k 94 _ (by decide) h1
  unfold readS
  split
  · split
    · rw [readItems_no10 _ _ _ h2]; rfl
    · exact readItems_no10 _ _ _ h1
  · rfl
theorem setO_zero (l : List UInt8) (h : setL l = 0) : setO l = none := by
  unfold setO
  rw [h]
  exact hexs_none_nil
theorem setO_nl (l b : List UInt8) : setO (l ++ 10 :: b) = setO l := by
  have h := setL_nl b _ l (Nat.le_refl _)
  by_cases h0 : setL l = 0
  · rw [setO_zero l h0]
    rcases h.2 h0 with h1 | h1
    · exact setO_zero _ h1
    · unfold setO
      refine readS_no10 _ ?_
      obtain ⟨q, hq⟩ : ∃ q, setL (l ++ 10 :: b) = l.length + 1 + q := ⟨_, (Nat.add_sub_cancel' h1).symm⟩
      rw [hq, Nat.add_assoc, List.take_add, List.drop_left, Nat.add_comm 1 q, List.take_succ_cons]
      simp
  · unfold setO
    rw [h.1 h0, List.take_append_of_le_length (setL_le _ l (Nat.le_refl _))]
end Go.Proofs.YtdodkbpagbblmaaDoor
end
section
namespace Go.Proofs.YtdodkbpagbblmaaDoor
open Go Go.RowKit

theorem nextW_nl (l b : List UInt8) (h : l ≠ []) : nextW (l ++ 10 :: b) = nextW l := by
  cases l with
  | nil => exact absurd rfl h
  | cons c r =>
    rw [nextW_of (c :: r ++ 10 :: b) c (r ++ 10 :: b) rfl c.toNat rfl, nextW_of (c :: r) c r rfl c.toNat rfl]
    rw [runL_nl, List.take_append_of_le_length (runL_le (c :: r)), numO_nl, textO_nl, setO_nl, List.take_append_of_le_length (by simp : 1 ≤ (c :: r).length)]
    have hs : (setO (c :: r)).map (fun s => ((⟨3, ⟨#[]⟩, s, 0⟩ : Wd), setL (c :: r ++ 10 :: b))) = (setO (c :: r)).map (fun s => ((⟨3, ⟨#[]⟩, s, 0⟩ : Wd), setL (c :: r))) := by
      by_cases h0 : setL (c :: r) = 0
      · rw [setO_zero _ h0]; rfl
      · rw [(setL_nl b _ (c :: r) (Nat.le_refl _)).1 h0]
    rw [hs]

theorem pre47_nl (c : UInt8) (r b : List UInt8) : Lib.hasPrefix (c :: r ++ 10 :: b) [47, 47] = Lib.hasPrefix (c :: r) [47, 47] := by
  cases r with
  | nil => simp [Lib.hasPrefix, List.isPrefixOf]
  | cons d r => simp [Lib.hasPrefix, List.isPrefixOf]
theorem skipL_nl (b : List UInt8) : ∀ (n : Nat) (l : List UInt8), l.length ≤ n → skipL (l ++ 10 :: b) = if skipL l = l.length then l.length + 1 + skipL b else skipL l := by
  intro n
  induction n with
  | zero =>
    intro l h
    have : l = [] := List.length_eq_zero_iff.1 (by omega)
    subst this
    rw [List.nil_append, skipL_blank 10 b (by decide), skipL_nil, List.length_nil, if_pos rfl]
    omega
  | succ n ih =>
    intro l h
    cases l with
    | nil =>
      rw [List.nil_append, skipL_blank 10 b (by decide), skipL_nil, List.length_nil, if_pos rfl]
      omega
    | cons c r =>
      cases hb : blkB c.toNat with
      | true =>
        have := ih r (by simp at h; omega)
        rw [List.cons_append, skipL_blank c _ hb, skipL_blank c _ hb, this, List.length_cons]
        by_cases h1 : skipL r = r.length
        · rw [if_pos h1, if_pos (by omega)]; omega
        · rw [if_neg h1, if_neg (by omega)]
      | false =>
        cases hp : Lib.hasPrefix (c :: r) [47, 47] with
        | true =>
          have hp2 : Lib.hasPrefix (c :: (r ++ 10 :: b)) [47, 47] = true := by rw [← List.cons_append, pre47_nl]; exact hp
          have h2 := lineL_two c r hp
          have h3 := lineL_le (c :: r)
          have hi := ih ((c :: r).drop (lineL (c :: r))) (by rw [List.length_drop]; simp only [List.length_cons] at *; omega)
          have e : lineL (c :: (r ++ 10 :: b)) = lineL (c :: r) := lineL_nl (c :: r) b
          have e2 : (c :: (r ++ 10 :: b)).drop (lineL (c :: r)) = (c :: r).drop (lineL (c :: r)) ++ 10 :: b := by
            rw [← List.cons_append, List.drop_append_of_le_length h3]
          rw [List.cons_append, skipL_comment c _ hb hp2, skipL_comment c _ hb hp, e, e2, hi]
          have h4 := skipL_le ((c :: r).drop (lineL (c :: r)))
          rw [List.length_drop] at h4 ⊢
          by_cases h1 : skipL ((c :: r).drop (lineL (c :: r))) = (c :: r).length - lineL (c :: r)
          · rw [if_pos h1, if_pos (by omega)]; omega
          · rw [if_neg h1, if_neg (by omega)]
        | false =>
          have hp2 : Lib.hasPrefix (c :: (r ++ 10 :: b)) [47, 47] = false := by rw [← List.cons_append, pre47_nl]; exact hp
          rw [List.cons_append, skipL_end c _ hb hp2, skipL_end c _ hb hp, if_neg (by simp)]

/-- What is read of a text hangs on what is behind its blanks alone. -/
theorem lexAt_skip (l m : List UInt8) (k j : Nat) (h1 : l.drop (skipL l) = m.drop (skipL m)) (h2 : k + skipL l = j + skipL m) : lexAt l k = lexAt m j := by
  by_cases he : m.drop (skipL m) = []
  · rw [lexAt_end m j he, lexAt_end l k (h1.trans he)]
  · have hl : l.drop (skipL l) ≠ [] := by rw [h1]; exact he
    cases hn : nextW (m.drop (skipL m)) with
    | none => rw [lexAt_bad m j he hn, lexAt_bad l k hl (by rw [h1]; exact hn), h2]
    | some p => rw [lexAt_step m j p he hn, lexAt_step l k p hl (by rw [h1]; exact hn), h1, h2]

/-- The words of a text, a line's end, and another text. -/
theorem lexAt_nl (b : List UInt8) : ∀ (n : Nat) (l : List UInt8), l.length ≤ n → ∀ k, lexAt (l ++ 10 :: b) k =
    match (lexAt l k).2 with
    | some p => ((lexAt l k).1, some p)
    | none => ((lexAt l k).1 ++ (lexAt b (k + l.length + 1)).1, (lexAt b (k + l.length + 1)).2) := by
  intro n
  induction n with
  | zero =>
    intro l h k
    have : l = [] := List.length_eq_zero_iff.1 (by omega)
    subst this
    rw [lexAt_end [] k rfl, List.nil_append]
    refine (lexAt_skip (10 :: b) b k (k + 1) ?_ ?_).trans ?_
    · rw [skipL_blank 10 b (by decide)]; rfl
    · rw [skipL_blank 10 b (by decide)]; omega
    · simp
  | succ n ih =>
    intro l h k
    have hs := skipL_nl b _ l (Nat.le_refl _)
    by_cases he : skipL l = l.length
    · rw [if_pos he] at hs
      rw [lexAt_end l k (by rw [he]; exact List.drop_length)]
      simp only [List.nil_append]
      refine lexAt_skip _ _ _ _ ?_ (by rw [hs]; omega)
      rw [hs, show l.length + 1 + skipL b = l.length + (skipL b + 1) by omega, ← List.drop_drop, List.drop_left]
      rfl
    · rw [if_neg he] at hs
      have hle := skipL_le l
      have hd : (l ++ 10 :: b).drop (skipL (l ++ 10 :: b)) = l.drop (skipL l) ++ 10 :: b := by rw [hs, List.drop_append_of_le_length hle]
      have hne : l.drop (skipL l) ≠ [] := fun e => by
        have := congrArg List.length e
        rw [List.length_drop, List.length_nil] at this
        omega
      have hne2 : (l ++ 10 :: b).drop (skipL (l ++ 10 :: b)) ≠ [] := by rw [hd]; simp
      cases hn : nextW (l.drop (skipL l)) with
      | none =>
        rw [lexAt_bad l k hne hn, lexAt_bad (l ++ 10 :: b) k hne2 (by rw [hd, nextW_nl _ _ hne]; exact hn), hs]
      | some p =>
        have hp := nextW_len _ p hn
        rw [lexAt_step l k p hne hn, lexAt_step (l ++ 10 :: b) k p hne2 (by rw [hd, nextW_nl _ _ hne]; exact hn), hd, hs, List.drop_append_of_le_length hp.2]
        have hl2 : ((l.drop (skipL l)).drop p.2).length + p.2 + skipL l = l.length := by
          rw [List.length_drop] at hp ⊢
          rw [List.length_drop]
          omega
        rw [ih ((l.drop (skipL l)).drop p.2) (by omega) (k + skipL l + p.2)]
        rw [show k + skipL l + p.2 + ((l.drop (skipL l)).drop p.2).length + 1 = k + l.length + 1 by omega]
        cases (lexAt ((l.drop (skipL l)).drop p.2) (k + skipL l + p.2)).2 with
        | none => rfl
        | some q => rfl

/-- Words as far behind. -/
def shiftW (d : Nat) (ws : List (Wd × Nat)) : List (Wd × Nat) := ws.map fun p => (p.1, p.2 + d)
theorem lexAt_shift (d : Nat) : ∀ (n : Nat) (l : List UInt8), l.length ≤ n → ∀ k, lexAt l (k + d) = (shiftW d (lexAt l k).1, (lexAt l k).2.map (· + d)) := by
  intro n
  induction n with
  | zero =>
    intro l h k
    have : l = [] := List.length_eq_zero_iff.1 (by omega)
    subst this
    rw [lexAt_end [] _ rfl, lexAt_end [] _ rfl]
    rfl
  | succ n ih =>
    intro l h k
    by_cases he : l.drop (skipL l) = []
    · rw [lexAt_end l _ he, lexAt_end l _ he]; rfl
    · cases hn : nextW (l.drop (skipL l)) with
      | none =>
        rw [lexAt_bad l _ he hn, lexAt_bad l _ he hn]
        simp [shiftW]
        omega
      | some p =>
        have hp := nextW_len _ p hn
        have hl2 : ((l.drop (skipL l)).drop p.2).length + p.2 + skipL l = l.length := by
          have hle := skipL_le l
          rw [List.length_drop] at hp ⊢
          rw [List.length_drop]
          omega
        rw [lexAt_step l _ p he hn, lexAt_step l _ p he hn]
        rw [show k + d + skipL l + p.2 = k + skipL l + p.2 + d by omega, ih _ (by omega) (k + skipL l + p.2)]
        simp [shiftW]
        omega
/-- The words of two texts with a line's end between. -/
theorem lexAt_join (a b : List UInt8) : lexAt (a ++ 10 :: b) 0 =
    match (lexAt a 0).2 with
    | some p => ((lexAt a 0).1, some p)
    | none => ((lexAt a 0).1 ++ shiftW (a.length + 1) (lexAt b 0).1, (lexAt b 0).2.map (· + (a.length + 1))) := by
  rw [lexAt_nl b _ a (Nat.le_refl _) 0]
  have h := lexAt_shift (a.length + 1) _ b (Nat.le_refl _) 0
  rw [show 0 + a.length + 1 = 0 + (a.length + 1) by omega, h]
end Go.Proofs.YtdodkbpagbblmaaDoor
end
