import Derived.WalkMore
import Derived.Test.YtdodkbpagbblmaaDoorR4
namespace Go.Proofs.YtdodkbpagbblmaaDoor
open Go Go.RowKit

/-! ### bytes of words -/
def digB (b : Nat) : Bool := decide (48 ≤ b ∧ b ≤ 57)
def letB (b : Nat) : Bool := decide (97 ≤ b ∧ b ≤ 122) || decide (65 ≤ b ∧ b ≤ 90)
def namB (b : Nat) : Bool := letB b || digB b || decide (b = 95)
def blkB (b : Nat) : Bool := decide (b = 32) || decide (b = 9) || decide (b = 10) || decide (b = 13)
/-- The signs: ; . = , ( ) { } > ? * + -/
def sgnB (b : Nat) : Bool := decide (b = 59 ∨ b = 46 ∨ b = 61 ∨ b = 44 ∨ b = 40 ∨ b = 41 ∨ b = 123 ∨ b = 125 ∨ b = 62 ∨ b = 63 ∨ b = 42 ∨ b = 43)

theorem isDigit_any (b : Nat) (w : World) : Calls Tryd.prog 23 #[.int .u8 b] w fun e w' => e = .returned (.bool (digB b)) ∧ w = w' := by
  unfold digB
  by_cases h1 : 48 ≤ b
  · have d1 : (48 : Int) ≤ b := by omega
    by_cases h2 : b ≤ 57
    · have d2 : (b : Int) ≤ 57 := by omega
      have hd : decide (48 ≤ b ∧ b ≤ 57) = true := by simp [h1, h2]
      rw [hd]
      go_enter Tryd.func23, Tryd.ntmps23
      go_wp2
      go_ret
      simp
    · have d2 : ¬ (b : Int) ≤ 57 := by omega
      have hd : decide (48 ≤ b ∧ b ≤ 57) = false := by simp [h2]
      rw [hd]
      go_enter Tryd.func23, Tryd.ntmps23
      go_wp2
      go_ret
      simp
  · have d1 : ¬ (48 : Int) ≤ b := by omega
    have hd : decide (48 ≤ b ∧ b ≤ 57) = false := by simp [h1]
    rw [hd]
    go_enter Tryd.func23, Tryd.ntmps23
    go_wp2
    go_ret
    simp

theorem inName_any (b : Nat) (w : World) : Calls Tryd.prog 51 #[.int .u8 b] w fun e w' => e = .returned (.bool (namB b)) ∧ w = w' := by
  have HD := fun w' => Lib.hid (isDigit_any b w')
  have key : ∀ r, namB b = r → (Calls Tryd.prog 51 #[.int .u8 b] w fun e w' => e = .returned (.bool r) ∧ w = w') → Calls Tryd.prog 51 #[.int .u8 b] w fun e w' => e = .returned (.bool (namB b)) ∧ w = w' := fun r h k => by rw [h]; exact k
  have hdg : digB b = decide (48 ≤ b ∧ b ≤ 57) := rfl
  by_cases h1 : 97 ≤ b ∧ b ≤ 122
  · refine key true (by simp [namB, letB, h1]) ?_
    have d1 : (97 : Int) ≤ b := by omega
    have d2 : (b : Int) ≤ 122 := by omega
    clear key hdg
    go_enter Tryd.func51, Tryd.ntmps51
    go_wp2
    go_ret
    simp
  · by_cases h2 : 65 ≤ b ∧ b ≤ 90
    · refine key true (by simp [namB, letB, h2]) ?_
      have d1 : ¬ (97 : Int) ≤ b := by omega
      have d3 : (65 : Int) ≤ b := by omega
      have d4 : (b : Int) ≤ 90 := by omega
      clear key hdg
      go_enter Tryd.func51, Tryd.ntmps51
      go_wp2
      go_ret
      simp
    · have hl : letB b = false := by simp [letB, h1, h2]
      have e1 : (decide ((97 : Int) ≤ b) && decide ((b : Int) ≤ 122)) = false := by simp; omega
      cases hd : digB b with
      | true =>
        refine key true (by simp [namB, hl, hd]) ?_
        rw [hd] at HD
        rw [hd] at hdg
        have d5 := of_decide_eq_true hdg.symm
        have d1 : ¬ (97 : Int) ≤ b := by omega
        have d3 : ¬ (65 : Int) ≤ b := by omega
        clear key hdg hl e1 hd
        go_enter Tryd.func51, Tryd.ntmps51
        go_wp2_with (go_at_call 23; refine (HD _).out.mono ?_; rintro e w' ⟨rfl, rfl⟩)
        go_ret
        simp
      | false =>
        rw [hd] at HD
        clear hdg
        by_cases h95 : b = 95
        · refine key true (by simp [namB, hl, hd, h95]) ?_
          clear key hl e1 hd
          subst h95
          go_enter Tryd.func51, Tryd.ntmps51
          go_wp2_with (go_at_call 23; refine (HD _).out.mono ?_; rintro e w' ⟨rfl, rfl⟩)
          go_ret
          simp
        · refine key false (by simp [namB, hl, hd, h95]) ?_
          have d6 : ¬ (b : Int) = 95 := by omega
          have d7 : ((b : Int) == 95) = false := by rw [beq_eq_false_iff_ne]; omega
          clear key hl e1 hd
          by_cases h3 : 97 ≤ b
          · have d1 : (97 : Int) ≤ b := by omega
            have d2 : ¬ (b : Int) ≤ 122 := by omega
            have d3 : (65 : Int) ≤ b := by omega
            have d4 : ¬ (b : Int) ≤ 90 := by omega
            go_enter Tryd.func51, Tryd.ntmps51
            go_wp2_with (go_at_call 23; refine (HD _).out.mono ?_; rintro e w' ⟨rfl, rfl⟩)
            go_ret
            simp
          · have d1 : ¬ (97 : Int) ≤ b := by omega
            by_cases h4 : 65 ≤ b
            · have d3 : (65 : Int) ≤ b := by omega
              have d4 : ¬ (b : Int) ≤ 90 := by omega
              go_enter Tryd.func51, Tryd.ntmps51
              go_wp2_with (go_at_call 23; refine (HD _).out.mono ?_; rintro e w' ⟨rfl, rfl⟩)
              go_ret
              simp
            · have d3 : ¬ (65 : Int) ≤ b := by omega
              go_enter Tryd.func51, Tryd.ntmps51
              go_wp2_with (go_at_call 23; refine (HD _).out.mono ?_; rintro e w' ⟨rfl, rfl⟩)
              go_ret
              simp

theorem isBlank_any (b : Nat) (w : World) : Calls Tryd.prog 35 #[.int .u8 b] w fun e w' => e = .returned (.bool (blkB b)) ∧ w = w' := by
  have key : ∀ r, blkB b = r → (Calls Tryd.prog 35 #[.int .u8 b] w fun e w' => e = .returned (.bool r) ∧ w = w') → Calls Tryd.prog 35 #[.int .u8 b] w fun e w' => e = .returned (.bool (blkB b)) ∧ w = w' := fun r h k => by rw [h]; exact k
  by_cases h1 : b = 32
  · refine key true (by simp [blkB, h1]) ?_
    clear key; subst h1
    go_enter Tryd.func35, Tryd.ntmps35
    go_wp2
    go_ret
    simp
  · by_cases h2 : b = 9
    · refine key true (by simp [blkB, h2]) ?_
      clear key; subst h2
      go_enter Tryd.func35, Tryd.ntmps35
      go_wp2
      go_ret
      simp
    · by_cases h3 : b = 10
      · refine key true (by simp [blkB, h3]) ?_
        clear key; subst h3
        go_enter Tryd.func35, Tryd.ntmps35
        go_wp2
        go_ret
        simp
      · by_cases h4 : b = 13
        · refine key true (by simp [blkB, h4]) ?_
          clear key; subst h4
          go_enter Tryd.func35, Tryd.ntmps35
          go_wp2
          go_ret
          simp
        · refine key false (by simp [blkB, h1, h2, h3, h4]) ?_
          have d1 : ((b : Int) == 32) = false := by rw [beq_eq_false_iff_ne]; omega
          have d2 : ((b : Int) == 9) = false := by rw [beq_eq_false_iff_ne]; omega
          have d3 : ((b : Int) == 10) = false := by rw [beq_eq_false_iff_ne]; omega
          have d4 : ((b : Int) == 13) = false := by rw [beq_eq_false_iff_ne]; omega
          clear key
          go_enter Tryd.func35, Tryd.ntmps35
          go_wp2
          go_ret
          simp

theorem sgn_all : ∀ b : Fin 256, decide (0 ≤ Lib.indexByte [59, 46, 61, 44, 40, 41, 123, 125, 62, 63, 42, 43] b.val.toUInt8) = sgnB b.val := by decide +kernel
theorem isSgn_any (b : Nat) (hb : b < 256) (w : World) : Calls Tryd.prog 27 #[.int .u8 b] w fun e w' => e = .returned (.bool (sgnB b)) ∧ w = w' := by
  have h := sgn_all ⟨b, hb⟩
  rw [← h]; clear h
  go_enter Tryd.func27, Tryd.ntmps27
  go_wp2_with (go_at_call 43; refine (Tryd.strings_IndexByte _ _ _).mono ?_; rintro e w' ⟨rfl, rfl⟩)
  go_ret
  exact ⟨by simp, rfl⟩

/-! ### how far a name goes -/
def runL : List UInt8 → Nat
  | [] => 0
  | c :: r => if namB c.toNat then runL r + 1 else 0
theorem runL_cons (c : UInt8) (r : List UInt8) : runL (c :: r) = if namB c.toNat then runL r + 1 else 0 := rfl
theorem runL_le (l : List UInt8) : runL l ≤ l.length := by
  induction l with
  | nil => simp [runL]
  | cons c r ih => unfold runL; split <;> simp <;> omega
theorem runL_drop (l : List UInt8) : ∀ k, k ≤ runL l → runL l = k + runL (l.drop k) := by
  induction l with
  | nil => intro k hk; simp [runL] at hk; subst hk; simp [runL]
  | cons c r ih =>
    intro k hk
    cases k with
    | zero => simp
    | succ k =>
      rw [runL_cons] at hk ⊢
      split
      · rename_i h
        rw [if_pos h] at hk
        rw [List.drop_succ_cons, ih k (by omega)]
        omega
      · rename_i h
        rw [if_neg h] at hk
        omega

theorem drop_at (s : ByteArray) (k : Nat) (h : k < s.size) : s.data.toList.drop k = s[k] :: s.data.toList.drop (k + 1) := by
  have h' : k < s.data.toList.length := by rw [← Lib.size_eq]; exact h
  rw [List.drop_eq_getElem_cons h']
  congr 1

set_option maxHeartbeats 800000 in
theorem runLength_any (s : ByteArray) (hs : s.size ≤ 140737488351232) (w : World) : Calls Tryd.prog 34 #[.string s] w fun e w' => e = .returned (.int .i64 (runL s.data.toList : Nat)) ∧ w = w' := by
  have hle := runL_le s.data.toList
  rw [← Lib.size_eq] at hle
  go_enter Tryd.func34, Tryd.ntmps34
  go_wp2
  go_loop [3] (fun i => ∃ k : Nat, i = .int .i64 k ∧ k ≤ runL s.data.toList) (fun i => s.size - (intOf i).toNat)
  case atStart => exact ⟨0, rfl, Nat.zero_le _⟩
  case round =>
    obtain ⟨k, rfl, hk⟩ := hrel
    have hrd := runL_drop s.data.toList k hk
    by_cases hlt : k < s.size
    · obtain ⟨b, hb⟩ : ∃ b, b = (s[k]'hlt).toNat := ⟨_, rfl⟩
      have hi : ∀ h, (s[k]'h).toNat = b := fun h => hb.symm
      rw [drop_at s k hlt] at hrd
      rw [runL_cons, hi] at hrd
      have HN := inName_any b w
      clear hb
      have n1 : (k : Int) < (s.size : Int) := by omega
      cases hn : namB b with
      | true =>
        rw [hn] at hrd HN
        have hk2 : k + 1 ≤ runL s.data.toList := by simp at hrd; omega
        have HN := Lib.hid HN
        have HK := Lib.hid hk2
        clear hrd hn hk2
        go_wp2_with (go_at_call 51; refine HN.out.mono ?_; rintro e w' ⟨rfl, rfl⟩)
        go_round
        case rel => exact ⟨k + 1, by go_num, HK.out⟩
        case measure => simp [intOf]; omega
      | false =>
        rw [hn] at hrd HN
        have hk2 : runL s.data.toList = k := by simp at hrd; omega
        have HK2 := Lib.hid hk2
        have HN := Lib.hid HN
        clear hrd hn hk2 hk hle
        go_wp2_with (go_at_call 51; refine HN.out.mono ?_; rintro e w' ⟨rfl, rfl⟩)
        go_ret
        exact ⟨by rw [HK2.out]; rfl, rfl⟩
    · have hk2 : runL s.data.toList = k := by omega
      have HK2 := Lib.hid hk2
      have n1 : ¬ (k : Int) < (s.size : Int) := by omega
      clear hrd hk2 hk hle
      go_wp2
      go_ret
      exact ⟨by rw [HK2.out]; rfl, rfl⟩
end Go.Proofs.YtdodkbpagbblmaaDoor
