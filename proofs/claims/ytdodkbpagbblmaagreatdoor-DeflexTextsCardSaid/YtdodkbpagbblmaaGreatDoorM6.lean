import Derived.Defers
import Derived.Recover
import Derived.Deep.RegionHeld3
import Derived.Test.YtdodkbpagbblmaaGreatDoorM1
import Derived.Test.YtdodkbpagbblmaaGreatDoorM4
import Derived.Test.YtdodkbpagbblmaaGreatDoorM5
section
namespace Go.Proofs.YtdodkbpagbblmaaGreatDoor
open Go Go.RowKit

def hexZ (c : Nat) : Int := match hexD c with
  | some d => d
  | none => -1

theorem hexZ_cases : ∀ c : Fin 256, (48 ≤ c.val ∧ c.val ≤ 57 ∧ hexZ c.val = (c.val : Int) - 48) ∨ (97 ≤ c.val ∧ c.val ≤ 102 ∧ hexZ c.val = (c.val : Int) - 97 + 10) ∨ (65 ≤ c.val ∧ c.val ≤ 70 ∧ hexZ c.val = (c.val : Int) - 65 + 10) ∨
    ((c.val < 48 ∨ 57 < c.val ∧ c.val < 65 ∨ 70 < c.val ∧ c.val < 97 ∨ 102 < c.val) ∧ hexZ c.val = -1) := by decide +kernel

theorem ret_i64 {a b : Int} (h : a = b) : Ending.returned (.int .i64 a) = .returned (.int .i64 b) := by rw [h]

set_option maxRecDepth 100000 in
set_option maxHeartbeats 4000000 in
theorem rhex_any (c : Nat) (hc : c < 256) (w : World) : Calls Tryz.prog 87 #[.int .u8 c] w fun e w' => e = .returned (.int .i64 (hexZ c)) ∧ w' = w := by
  have hh := hexZ_cases ⟨c, hc⟩
  dsimp only at hh
  rcases hh with ⟨a, b, h⟩ | ⟨a, b, h⟩ | ⟨a, b, h⟩ | ⟨a, h⟩
  · have H := Lib.hid h
    have k1 : (48 : Int) ≤ c := by omega
    have k2 : (c : Int) ≤ 57 := by omega
    clear h a b hc
    go_enter Tryz.func87, Tryz.ntmps87
    go_wp2
    go_ret
    exact ⟨ret_i64 (by rw [H.out]), rfl⟩
  · have H := Lib.hid h
    have k1 : (97 : Int) ≤ c := by omega
    have k2 : (c : Int) ≤ 102 := by omega
    have k3 : (48 : Int) ≤ c := by omega
    have k4 : ¬ (c : Int) ≤ 57 := by omega
    clear h a b hc
    go_enter Tryz.func87, Tryz.ntmps87
    go_wp2
    go_ret
    exact ⟨ret_i64 (by rw [H.out]), rfl⟩
  · have H := Lib.hid h
    have k1 : (65 : Int) ≤ c := by omega
    have k2 : (c : Int) ≤ 70 := by omega
    have k3 : (48 : Int) ≤ c := by omega
    have k4 : ¬ (c : Int) ≤ 57 := by omega
    have k5 : ¬ (97 : Int) ≤ c := by omega
    clear h a b hc
    go_enter Tryz.func87, Tryz.ntmps87
    go_wp2
    go_ret
    exact ⟨ret_i64 (by rw [H.out]), rfl⟩
  · have H := Lib.hid h
    rcases a with a | a | a | a
    · have k3 : ¬ (48 : Int) ≤ c := by omega
      have k5 : ¬ (97 : Int) ≤ c := by omega
      have k6 : ¬ (65 : Int) ≤ c := by omega
      clear h a hc
      go_enter Tryz.func87, Tryz.ntmps87
      go_wp2
      go_ret
      exact ⟨ret_i64 (by rw [H.out]), rfl⟩
    · have k3 : (48 : Int) ≤ c := by omega
      have k4 : ¬ (c : Int) ≤ 57 := by omega
      have k5 : ¬ (97 : Int) ≤ c := by omega
      have k6 : ¬ (65 : Int) ≤ c := by omega
      clear h a hc
      go_enter Tryz.func87, Tryz.ntmps87
      go_wp2
      go_ret
      exact ⟨ret_i64 (by rw [H.out]), rfl⟩
    · have k3 : (48 : Int) ≤ c := by omega
      have k4 : ¬ (c : Int) ≤ 57 := by omega
      have k5 : ¬ (97 : Int) ≤ c := by omega
      have k6 : (65 : Int) ≤ c := by omega
      have k7 : ¬ (c : Int) ≤ 70 := by omega
      clear h a hc
      go_enter Tryz.func87, Tryz.ntmps87
      go_wp2
      go_ret
      exact ⟨ret_i64 (by rw [H.out]), rfl⟩
    · have k3 : (48 : Int) ≤ c := by omega
      have k4 : ¬ (c : Int) ≤ 57 := by omega
      have k5 : (97 : Int) ≤ c := by omega
      have k6 : (65 : Int) ≤ c := by omega
      have k7 : ¬ (c : Int) ≤ 70 := by omega
      have k8 : ¬ (c : Int) ≤ 102 := by omega
      clear h a hc
      go_enter Tryz.func87, Tryz.ntmps87
      go_wp2
      go_ret
      exact ⟨ret_i64 (by rw [H.out]), rfl⟩
end Go.Proofs.YtdodkbpagbblmaaGreatDoor
end
section
namespace Go.Proofs.YtdodkbpagbblmaaGreatDoor
open Go Go.RowKit

set_option maxRecDepth 100000 in
set_option maxHeartbeats 4000000 in
/-- The document's hex, layer 3. -/
theorem rhex3_any (c : Nat) (hc : c < 256) (w : World) : Calls Tryz.prog 64 #[.int .u8 c] w fun e w' => e = .returned (.int .i64 (hexZ c)) ∧ w = w' := by
  have hh := hexZ_cases ⟨c, hc⟩
  dsimp only at hh
  have HD := Lib.hid (fun w' => rdigit_any c hc w')
  rcases hh with ⟨a, b, h⟩ | ⟨a, b, h⟩ | ⟨a, b, h⟩ | ⟨a, h⟩
  · have H := Lib.hid h
    have hd : digB c = true := by unfold digB; rw [decide_eq_true_eq]; omega
    rw [hd] at HD
    have k1 : (48 : Int) ≤ c := by omega
    have k2 : (c : Int) ≤ 57 := by omega
    clear h a b hc hd
    go_enter Tryz.func64, Tryz.ntmps64
    go_wp2_with (go_at_call 36; refine (HD.out _).mono ?_; rintro e w' ⟨rfl, rfl⟩)
    go_ret
    exact ⟨ret_i64 (by rw [H.out]), rfl⟩
  · have H := Lib.hid h
    have hd : digB c = false := by unfold digB; rw [decide_eq_false_iff_not]; omega
    rw [hd] at HD
    have k1 : (97 : Int) ≤ c := by omega
    have k2 : (c : Int) ≤ 102 := by omega
    clear h a b hc hd
    go_enter Tryz.func64, Tryz.ntmps64
    go_wp2_with (go_at_call 36; refine (HD.out _).mono ?_; rintro e w' ⟨rfl, rfl⟩)
    go_ret
    exact ⟨ret_i64 (by rw [H.out]), rfl⟩
  · have H := Lib.hid h
    have hd : digB c = false := by unfold digB; rw [decide_eq_false_iff_not]; omega
    rw [hd] at HD
    have k1 : (65 : Int) ≤ c := by omega
    have k2 : (c : Int) ≤ 70 := by omega
    have k5 : ¬ (97 : Int) ≤ c := by omega
    clear h a b hc hd
    go_enter Tryz.func64, Tryz.ntmps64
    go_wp2_with (go_at_call 36; refine (HD.out _).mono ?_; rintro e w' ⟨rfl, rfl⟩)
    go_ret
    exact ⟨ret_i64 (by rw [H.out]), rfl⟩
  · have H := Lib.hid h
    have hd : digB c = false := by unfold digB; rw [decide_eq_false_iff_not]; omega
    rw [hd] at HD
    rcases a with a | a | a | a
    · have k5 : ¬ (97 : Int) ≤ c := by omega
      have k6 : ¬ (65 : Int) ≤ c := by omega
      clear h a hc hd
      go_enter Tryz.func64, Tryz.ntmps64
      go_wp2_with (go_at_call 36; refine (HD.out _).mono ?_; rintro e w' ⟨rfl, rfl⟩)
      go_ret
      exact ⟨ret_i64 (by rw [H.out]), rfl⟩
    · have k5 : ¬ (97 : Int) ≤ c := by omega
      have k6 : ¬ (65 : Int) ≤ c := by omega
      clear h a hc hd
      go_enter Tryz.func64, Tryz.ntmps64
      go_wp2_with (go_at_call 36; refine (HD.out _).mono ?_; rintro e w' ⟨rfl, rfl⟩)
      go_ret
      exact ⟨ret_i64 (by rw [H.out]), rfl⟩
    · have k5 : ¬ (97 : Int) ≤ c := by omega
      have k6 : (65 : Int) ≤ c := by omega
      have k7 : ¬ (c : Int) ≤ 70 := by omega
      clear h a hc hd
      go_enter Tryz.func64, Tryz.ntmps64
      go_wp2_with (go_at_call 36; refine (HD.out _).mono ?_; rintro e w' ⟨rfl, rfl⟩)
      go_ret
      exact ⟨ret_i64 (by rw [H.out]), rfl⟩
    · have k5 : (97 : Int) ≤ c := by omega
      have k6 : (65 : Int) ≤ c := by omega
      have k7 : ¬ (c : Int) ≤ 70 := by omega
      have k8 : ¬ (c : Int) ≤ 102 := by omega
      clear h a hc hd
      go_enter Tryz.func64, Tryz.ntmps64
      go_wp2_with (go_at_call 36; refine (HD.out _).mono ?_; rintro e w' ⟨rfl, rfl⟩)
      go_ret
      exact ⟨ret_i64 (by rw [H.out]), rfl⟩

theorem pre47_two (a b : UInt8) (r : List UInt8) (ha : a.toNat = 47) (hb : b.toNat = 47) : Lib.hasPrefix (a :: b :: r) [47, 47] = true := by
  have e1 : a = 47 := by rw [← UInt8.toNat_inj]; exact ha
  have e2 : b = 47 := by rw [← UInt8.toNat_inj]; exact hb
  subst e1
  subst e2
  simp [Lib.hasPrefix, List.isPrefixOf]
theorem pre47_first (a : UInt8) (r : List UInt8) (ha : a.toNat ≠ 47) : Lib.hasPrefix (a :: r) [47, 47] = false := by
  have e1 : (a == 47) = false := by rw [beq_eq_false_iff_ne]; intro e; rw [e] at ha; exact ha rfl
  have e2 : ((47 : UInt8) == a) = false := by rw [beq_eq_false_iff_ne]; intro e; rw [← e] at ha; exact ha rfl
  simp [Lib.hasPrefix, List.isPrefixOf, e1, e2]
theorem pre47_second (a b : UInt8) (r : List UInt8) (hb : b.toNat ≠ 47) : Lib.hasPrefix (a :: b :: r) [47, 47] = false := by
  have e1 : (b == 47) = false := by rw [beq_eq_false_iff_ne]; intro e; rw [e] at hb; exact hb rfl
  have e2 : ((47 : UInt8) == b) = false := by rw [beq_eq_false_iff_ne]; intro e; rw [← e] at hb; exact hb rfl
  simp [Lib.hasPrefix, List.isPrefixOf, e1, e2]
theorem pre47_one (a : UInt8) : Lib.hasPrefix [a] [47, 47] = false := by simp [Lib.hasPrefix, List.isPrefixOf]
theorem lineL_cons (c : UInt8) (r : List UInt8) : lineL (c :: r) = if c.toNat = 10 then 0 else lineL r + 1 := rfl
theorem drop_end (s : ByteArray) (k : Nat) (h : s.size ≤ k) : s.data.toList.drop k = [] := List.drop_eq_nil_of_le (by rw [← Lib.size_eq]; exact h)

set_option maxRecDepth 100000 in
set_option maxHeartbeats 8000000 in
/-- The document's skip. -/
theorem rskip_any (s : ByteArray) (k : Nat) (hs : s.size ≤ 1048576) (hk : k ≤ s.size) (w : World) :
    Calls Tryz.prog 23 #[.string s, .int .i64 k] w fun e w' => e = .returned (.int .i64 ((k + skipL (s.data.toList.drop k) : Nat) : Int)) ∧ w = w' := by
  obtain ⟨N, hN⟩ : ∃ N, N = k + skipL (s.data.toList.drop k) := ⟨_, rfl⟩
  have HN := Lib.hid hN
  rw [← hN]
  clear hN
  go_enter Tryz.func23, Tryz.ntmps23
  go_wp2
  go_loopw [1] (fun q wr => ∃ m : Nat, q = .int .i64 m ∧ m ≤ s.size ∧ Hid (N = m + skipL (s.data.toList.drop m)) ∧ wr = w)
    (fun q _ => s.size - (intOf q).toNat)
  case atStart => exact ⟨k, rfl, hk, HN, rfl⟩
  case round =>
    clear HN hk
    obtain ⟨m, rfl, hm, hI, rfl⟩ := hrel
    by_cases hlt : m < s.size
    · have n1 : (m : Int) < (s.size : Int) := by omega
      have hd := drop_at s m hlt
      obtain ⟨b, hb⟩ : ∃ b, b = (s[m]'hlt).toNat := ⟨_, rfl⟩
      have hi : ∀ h, (s[m]'h).toNat = b := fun h => hb.symm
      by_cases hbl : blkB b = true
      · have hI2 : Hid (N = (m + 1) + skipL (s.data.toList.drop (m + 1))) := Lib.hid (by
          have h := hI.out
          rw [hd, skipL_blank _ _ (by rw [← hb]; exact hbl)] at h
          omega)
        have hbc : b = 32 ∨ b = 9 ∨ b = 10 ∨ b = 13 := by
          unfold blkB at hbl
          simp only [Bool.or_eq_true, decide_eq_true_eq] at hbl
          omega
        clear hd hb hI hbl
        rcases hbc with e | e | e | e
        · have d1 : ((b : Int) == 32) = true := by rw [beq_iff_eq]; omega
          clear e
          go_wp2
          go_roundw
          case rel => exact ⟨m + 1, by go_num, by omega, hI2, by first | rfl | trivial⟩
          case measure => simp [intOf]; omega
        · have d1 : ((b : Int) == 32) = false := by rw [beq_eq_false_iff_ne]; omega
          have d2 : ((b : Int) == 9) = true := by rw [beq_iff_eq]; omega
          clear e
          go_wp2
          go_roundw
          case rel => exact ⟨m + 1, by go_num, by omega, hI2, by first | rfl | trivial⟩
          case measure => simp [intOf]; omega
        · have d1 : ((b : Int) == 32) = false := by rw [beq_eq_false_iff_ne]; omega
          have d2 : ((b : Int) == 9) = false := by rw [beq_eq_false_iff_ne]; omega
          have d3 : ((b : Int) == 10) = true := by rw [beq_iff_eq]; omega
          clear e
          go_wp2
          go_roundw
          case rel => exact ⟨m + 1, by go_num, by omega, hI2, by first | rfl | trivial⟩
          case measure => simp [intOf]; omega
        · have d1 : ((b : Int) == 32) = false := by rw [beq_eq_false_iff_ne]; omega
          have d2 : ((b : Int) == 9) = false := by rw [beq_eq_false_iff_ne]; omega
          have d3 : ((b : Int) == 10) = false := by rw [beq_eq_false_iff_ne]; omega
          have d4 : ((b : Int) == 13) = true := by rw [beq_iff_eq]; omega
          clear e
          go_wp2
          go_roundw
          case rel => exact ⟨m + 1, by go_num, by omega, hI2, by first | rfl | trivial⟩
          case measure => simp [intOf]; omega
      · have hbl : blkB b = false := by cases h : blkB b with | false => rfl | true => exact absurd h hbl
        have hbc : b ≠ 32 ∧ b ≠ 9 ∧ b ≠ 10 ∧ b ≠ 13 := by
          unfold blkB at hbl
          simp only [Bool.or_eq_false_iff, decide_eq_false_iff_not] at hbl
          omega
        have d1 : ((b : Int) == 32) = false := by rw [beq_eq_false_iff_ne]; omega
        have d2 : ((b : Int) == 9) = false := by rw [beq_eq_false_iff_ne]; omega
        have d3 : ((b : Int) == 10) = false := by rw [beq_eq_false_iff_ne]; omega
        have d4 : ((b : Int) == 13) = false := by rw [beq_eq_false_iff_ne]; omega
        have HEnd : Hid (Lib.hasPrefix (s[m] :: s.data.toList.drop (m + 1)) [47, 47] = false → N = m) := Lib.hid fun hp => by
          have h := hI.out
          rw [hd, skipL_end _ _ (by rw [← hb]; exact hbl) hp] at h
          exact h
        by_cases h2 : m + 1 < s.size
        · have n2 : (2 : Int) ≤ (s.size : Int) - (m : Int) := by omega
          have hd2 := drop_at s (m + 1) h2
          obtain ⟨c, hc⟩ : ∃ c, c = (s[m + 1]'h2).toNat := ⟨_, rfl⟩
          have hj : ∀ h, (s[m + 1]'h).toNat = c := fun h => hc.symm
          by_cases hb47 : b = 47
          · have d5 : ((b : Int) == 47) = true := by rw [beq_iff_eq]; omega
            by_cases hc47 : c = 47
            · have d6 : ((c : Int) == 47) = true := by rw [beq_iff_eq]; omega
              have hp := pre47_two s[m] s[m + 1] (s.data.toList.drop (m + 1 + 1)) (by rw [← hb]; exact hb47) (by rw [← hc]; exact hc47)
              rw [← hd2] at hp
              have HL : Hid (2 ≤ lineL (s.data.toList.drop m)) := Lib.hid (by rw [hd]; exact lineL_two _ _ hp)
              have HI2 : Hid (N = m + lineL (s.data.toList.drop m) + skipL (s.data.toList.drop (m + lineL (s.data.toList.drop m)))) := Lib.hid (by
                have h := hI.out
                rw [hd, skipL_comment _ _ (by rw [← hb]; exact hbl) hp, ← hd, List.drop_drop] at h
                omega)
              have hll := lineL_le (s.data.toList.drop m)
              rw [drop_len] at hll
              obtain ⟨E, hE⟩ : ∃ E, E = m + lineL (s.data.toList.drop m) := ⟨_, rfl⟩
              rw [← hE] at HI2
              have HE : Hid (E = m + lineL (s.data.toList.drop m)) := hE
              have hE1 : m < E := by have := HL.out; omega
              have hE2 : E ≤ s.size := by omega
              clear hd hd2 hp hI HEnd hbl hbc hll HL hE hb hc
              obtain ⟨wo, rfl⟩ : ∃ wo : World, wo = wr := ⟨_, rfl⟩
              go_wp2
              go_loopw [1] (fun q wr => ∃ j : Nat, q = .int .i64 j ∧ j ≤ E ∧ Hid (E = j + lineL (s.data.toList.drop j)) ∧ wr = wo)
                (fun q _ => s.size - (intOf q).toNat)
              case atStart => exact ⟨m, rfl, by omega, HE, rfl⟩
              case round =>
                clear HE
                obtain ⟨j, rfl, hj2, hJ, rfl⟩ := hrel
                by_cases hlt2 : j < s.size
                · have n3 : (j : Int) < (s.size : Int) := by omega
                  have hd := drop_at s j hlt2
                  obtain ⟨y, hy⟩ : ∃ y, y = (s[j]'hlt2).toNat := ⟨_, rfl⟩
                  have hi2 : ∀ h, (s[j]'h).toNat = y := fun h => hy.symm
                  by_cases hy10 : y = 10
                  · have d7 : ((y : Int) != 10) = false := by rw [bne_eq_false_iff_eq]; omega
                    have hje : j = E := by
                      have h := hJ.out
                      rw [hd, lineL_cons, if_pos (by rw [← hy]; exact hy10)] at h
                      omega
                    subst hje
                    clear hd hy hJ
                    go_wp2
                    go_roundw
                    case rel => exact ⟨j, rfl, hE2, HI2, by first | rfl | trivial⟩
                    case measure => simp [intOf]; omega
                  · have d7 : ((y : Int) != 10) = true := by rw [bne_iff_ne]; omega
                    have hJ2 : Hid (E = (j + 1) + lineL (s.data.toList.drop (j + 1))) := Lib.hid (by
                      have h := hJ.out
                      rw [hd, lineL_cons, if_neg (by rw [← hy]; exact hy10)] at h
                      omega)
                    have hj3 : j + 1 ≤ E := by have := hJ2.out; omega
                    clear hd hy hJ
                    go_wp2
                    go_roundw
                    case rel => exact ⟨j + 1, by go_num, hj3, hJ2, by first | rfl | trivial⟩
                    case measure => simp [intOf]; omega
                · have hje : j = E := by omega
                  subst hje
                  have n3 : ¬ (j : Int) < (s.size : Int) := by omega
                  clear hJ
                  go_wp2
                  go_roundw
                  case rel => exact ⟨j, rfl, hE2, HI2, by first | rfl | trivial⟩
                  case measure => simp [intOf]; omega
            · have d6 : ((c : Int) == 47) = false := by rw [beq_eq_false_iff_ne]; omega
              have hNm := Lib.hid (HEnd.out (by rw [hd2]; exact pre47_second _ _ _ (by rw [← hc]; exact hc47)))
              clear hd hd2 hI HEnd hbl hbc hb hc
              go_wp2
              go_ret
              exact ⟨by rw [hNm.out]; rfl, rfl⟩
          · have d5 : ((b : Int) == 47) = false := by rw [beq_eq_false_iff_ne]; omega
            have hNm := Lib.hid (HEnd.out (pre47_first _ _ (by rw [← hb]; exact hb47)))
            clear hd hd2 hI HEnd hbl hbc hb hc
            go_wp2
            go_ret
            exact ⟨by rw [hNm.out]; rfl, rfl⟩
        · have n2 : ¬ (2 : Int) ≤ (s.size : Int) - (m : Int) := by omega
          have hNm := Lib.hid (HEnd.out (by rw [drop_end s (m + 1) (by omega)]; exact pre47_one _))
          clear hd hI HEnd hbl hbc hb
          go_wp2
          go_ret
          exact ⟨by rw [hNm.out]; rfl, rfl⟩
    · obtain rfl : m = s.size := by omega
      have hNm : Hid (N = s.size) := Lib.hid (by have h := hI.out; rw [drop_end s s.size (Nat.le_refl _), skipL_nil] at h; exact h)
      clear hI
      go_wp2
      go_ret
      exact ⟨by rw [hNm.out]; rfl, rfl⟩
end Go.Proofs.YtdodkbpagbblmaaGreatDoor
end
section
namespace Go.Proofs.YtdodkbpagbblmaaGreatDoor
open Go Go.RowKit

/-- A byte as it stands between two quotes. -/
def quoteB (b : Nat) : List Nat :=
  if b = 10 then [92, 110] else if b = 9 then [92, 116] else if b = 13 then [92, 114] else if b = 34 ∨ b = 92 then [92, b] else if 32 ≤ b ∧ b ≤ 126 then [b] else [92, 120, hexC (b / 16), hexC (b % 16)]
theorem quoteB_len (b : Nat) : (quoteB b).length ≤ 4 := by
  unfold quoteB
  repeat' split
  all_goals simp
theorem quoteB_pos (b : Nat) : 1 ≤ (quoteB b).length := by
  unfold quoteB
  repeat' split
  all_goals simp
theorem quoteB_lt (b : Nat) (hb : b < 256) : ∀ x ∈ quoteB b, x < 256 := by
  have hx : ∀ n, n < 16 → hexC n < 256 := fun n h => by unfold hexC; split <;> omega
  unfold quoteB
  repeat' split
  all_goals simp
  all_goals (try omega)
  exact ⟨hx _ (by omega), hx _ (by omega)⟩

set_option maxRecDepth 100000 in
set_option maxHeartbeats 4000000 in
theorem quoteB_any (v : Value) (l : List Nat) (b : Nat) (hb : b < 256) (n₀ : Nat) (w : World) (hown : w.ownsRow n₀ 5 1 v l.length (l.map byteV)) (hn : n₀ ≤ w.heap.size) (hl : l.length ≤ 1000000000) :
    Calls Tryz.prog 53 #[v, .int .u8 b] w (bytePost (l ++ quoteB b) n₀ w) := by
  obtain ⟨i0, hi, hz0, hz1, hz2⟩ := info_parts Tryz.info5
  by_cases c1 : b = 10
  · have hE : quoteB b = [92, 110] := by subst c1; rfl
    rw [hE]
    subst c1
    clear hE
    go_enter Tryz.func53, Tryz.ntmps53
    go_wp2_with (at_builtin; refine Lib.wpList_append_own_string _ rfl _ _ 58 9 rfl n₀ 5 i0 Tryz.underlying58 Tryz.underlying9 hi hz0 hz1 hz2 _ _ _ rfl hown ⟨#[92, 110]⟩ rfl (by show l.length + 2 ≤ maxLen; unfold maxLen; omega) (by show l.length + 2 ≤ _; omega) hn ?_; intro v' w1 hown1 hgrow _)
    go_ret
    obtain ⟨k1, k2⟩ := own_fin hown (Lib.OthersKept.refl 5 none w) (Below.refl n₀ w) hn hgrow
    refine ⟨v', rfl, ?_, k1, k2⟩
    have e1 : (l ++ [92, 110]).length = l.length + 2 := by simp
    have e2 : (l ++ [92, 110]).map byteV = l.map byteV ++ Lib.strCells ⟨#[92, 110]⟩ := by simp [byteV, Lib.strCells]
    rw [e1, e2]; exact hown1
  by_cases c2 : b = 9
  · have hE : quoteB b = [92, 116] := by subst c2; rfl
    rw [hE]
    subst c2
    clear hE
    go_enter Tryz.func53, Tryz.ntmps53
    go_wp2_with (at_builtin; refine Lib.wpList_append_own_string _ rfl _ _ 58 9 rfl n₀ 5 i0 Tryz.underlying58 Tryz.underlying9 hi hz0 hz1 hz2 _ _ _ rfl hown ⟨#[92, 116]⟩ rfl (by show l.length + 2 ≤ maxLen; unfold maxLen; omega) (by show l.length + 2 ≤ _; omega) hn ?_; intro v' w1 hown1 hgrow _)
    go_ret
    obtain ⟨k1, k2⟩ := own_fin hown (Lib.OthersKept.refl 5 none w) (Below.refl n₀ w) hn hgrow
    refine ⟨v', rfl, ?_, k1, k2⟩
    have e1 : (l ++ [92, 116]).length = l.length + 2 := by simp
    have e2 : (l ++ [92, 116]).map byteV = l.map byteV ++ Lib.strCells ⟨#[92, 116]⟩ := by simp [byteV, Lib.strCells]
    rw [e1, e2]; exact hown1
  by_cases c3 : b = 13
  · have hE : quoteB b = [92, 114] := by subst c3; rfl
    rw [hE]
    subst c3
    clear hE
    go_enter Tryz.func53, Tryz.ntmps53
    go_wp2_with (at_builtin; refine Lib.wpList_append_own_string _ rfl _ _ 58 9 rfl n₀ 5 i0 Tryz.underlying58 Tryz.underlying9 hi hz0 hz1 hz2 _ _ _ rfl hown ⟨#[92, 114]⟩ rfl (by show l.length + 2 ≤ maxLen; unfold maxLen; omega) (by show l.length + 2 ≤ _; omega) hn ?_; intro v' w1 hown1 hgrow _)
    go_ret
    obtain ⟨k1, k2⟩ := own_fin hown (Lib.OthersKept.refl 5 none w) (Below.refl n₀ w) hn hgrow
    refine ⟨v', rfl, ?_, k1, k2⟩
    have e1 : (l ++ [92, 114]).length = l.length + 2 := by simp
    have e2 : (l ++ [92, 114]).map byteV = l.map byteV ++ Lib.strCells ⟨#[92, 114]⟩ := by simp [byteV, Lib.strCells]
    rw [e1, e2]; exact hown1
  by_cases c4 : b = 34 ∨ b = 92
  · have hE : quoteB b = [92, b] := by unfold quoteB; rw [if_neg c1, if_neg c2, if_neg c3, if_pos c4]
    rw [hE]
    clear hE
    rcases c4 with c4 | c4
    · subst c4
      go_enter Tryz.func53, Tryz.ntmps53
      go_wp2_with (at_builtin; refine wpList_append_own _ rfl _ _ 58 rfl n₀ 5 i0 (.int .u8 0) 1 1 Tryz.underlying58 hi hz0 hz1 hz2 rfl (by decide) _ _ _ rfl (hown.alloc _) ⟨w.heap.size, 0, none⟩ 2 2 [.int .u8 92, .int .u8 34] rfl rfl (cell_two_new _ _ _ _) (by simp [Value.oneCell']) (by unfold maxLen; omega) (by omega) (by simp; omega) ?_; intro v' w1 hown1 hgrow _)
      go_ret
      obtain ⟨k1, k2⟩ := own_fin (hown.alloc _) ((Lib.OthersKept.refl 5 none w).alloc _) ((Below.refl n₀ w).alloc hn _) hn hgrow
      refine ⟨v', rfl, ?_, k1, k2⟩
      have e1 : (l ++ [92, 34]).length = l.length + 2 := by simp
      have e2 : (l ++ [92, 34]).map byteV = l.map byteV ++ [.int .u8 92, .int .u8 34] := by simp [byteV]
      rw [e1, e2]; exact hown1
    · subst c4
      go_enter Tryz.func53, Tryz.ntmps53
      go_wp2_with (at_builtin; refine wpList_append_own _ rfl _ _ 58 rfl n₀ 5 i0 (.int .u8 0) 1 1 Tryz.underlying58 hi hz0 hz1 hz2 rfl (by decide) _ _ _ rfl (hown.alloc _) ⟨w.heap.size, 0, none⟩ 2 2 [.int .u8 92, .int .u8 92] rfl rfl (cell_two_new _ _ _ _) (by simp [Value.oneCell']) (by unfold maxLen; omega) (by omega) (by simp; omega) ?_; intro v' w1 hown1 hgrow _)
      go_ret
      obtain ⟨k1, k2⟩ := own_fin (hown.alloc _) ((Lib.OthersKept.refl 5 none w).alloc _) ((Below.refl n₀ w).alloc hn _) hn hgrow
      refine ⟨v', rfl, ?_, k1, k2⟩
      have e1 : (l ++ [92, 92]).length = l.length + 2 := by simp
      have e2 : (l ++ [92, 92]).map byteV = l.map byteV ++ [.int .u8 92, .int .u8 92] := by simp [byteV]
      rw [e1, e2]; exact hown1
  have c4' : ¬ b = 34 := fun h => c4 (.inl h)
  have c5' : ¬ b = 92 := fun h => c4 (.inr h)
  have d1 : ¬ (b : Int) = 10 := by omega
  have d2 : ¬ (b : Int) = 9 := by omega
  have d3 : ¬ (b : Int) = 13 := by omega
  have d4 : ((b : Int) == 34) = false := by rw [beq_eq_false_iff_ne]; omega
  have d5 : ((b : Int) == 92) = false := by rw [beq_eq_false_iff_ne]; omega
  by_cases c6 : 32 ≤ b ∧ b ≤ 126
  · have hE : quoteB b = [b] := by unfold quoteB; rw [if_neg c1, if_neg c2, if_neg c3, if_neg c4, if_pos c6]
    rw [hE]
    clear hE c4
    obtain ⟨c6, c7⟩ := c6
    have d6 : (32 : Int) ≤ (b : Int) := by omega
    have d7 : (b : Int) ≤ 126 := by omega

    go_enter Tryz.func53, Tryz.ntmps53
    go_wp2_with (at_builtin; refine wpList_append_own _ rfl _ _ 58 rfl n₀ 5 i0 (.int .u8 0) 1 1 Tryz.underlying58 hi hz0 hz1 hz2 rfl (by decide) _ _ _ rfl (hown.alloc _) ⟨w.heap.size, 0, none⟩ 1 1 [.int .u8 b] rfl rfl (cell_one_new _ _ _) (by simp [Value.oneCell']) (by unfold maxLen; omega) (by omega) (by simp; omega) ?_; intro v' w1 hown1 hgrow _)
    go_ret
    obtain ⟨k1, k2⟩ := own_fin (hown.alloc _) ((Lib.OthersKept.refl 5 none w).alloc _) ((Below.refl n₀ w).alloc hn _) hn hgrow
    refine ⟨v', rfl, ?_, k1, k2⟩
    have e1 : (l ++ [b]).length = l.length + 1 := by simp
    have e2 : (l ++ [b]).map byteV = l.map byteV ++ [.int .u8 b] := by simp [byteV]
    rw [e1, e2]; exact hown1
  · have hE : quoteB b = [92, 120, hexC (b / 16), hexC (b % 16)] := by unfold quoteB; rw [if_neg c1, if_neg c2, if_neg c3, if_neg c4, if_neg c6]
    rw [hE]
    clear hE c4
    have hI1 : ∀ w', (Instr.index 9 (.string ⟨#[48, 49, 50, 51, 52, 53, 54, 55, 56, 57, 97, 98, 99, 100, 101, 102]⟩) (.int .u8 ((b : Int) / 16))).run Tryz.prog w' = .ok (.int .u8 (hexC (b / 16) : Nat)) w' := by
      rw [show ((b : Int) / 16) = ((b / 16 : Nat) : Int) by omega]; exact hex_ix (b / 16) (by omega)
    have hI2 : ∀ w', (Instr.index 9 (.string ⟨#[48, 49, 50, 51, 52, 53, 54, 55, 56, 57, 97, 98, 99, 100, 101, 102]⟩) (.int .u8 ((b : Int) % 16))).run Tryz.prog w' = .ok (.int .u8 (hexC (b % 16) : Nat)) w' := by
      rw [show ((b : Int) % 16) = ((b % 16 : Nat) : Int) by omega]; exact hex_ix (b % 16) (by omega)
    have hb15 : bits .and .u8 (b : Int) 15 = (b : Int) % 16 := by
      have h := u8_and_nat b 15 hb (by omega)
      rw [and15] at h
      exact h.trans (by omega)
    by_cases c7 : 32 ≤ b
    · have c8 : ¬ b ≤ 126 := fun h => c6 ⟨c7, h⟩
      have d6 : (32 : Int) ≤ (b : Int) := by omega
      have d7 : ¬ (b : Int) ≤ 126 := by omega

      go_enter Tryz.func53, Tryz.ntmps53
      go_wp2
      go_region_law (first | (refine step_append_lies _ (by rfl) _ _ _ (by rfl) n₀ 5 i0 (.int .u8 0) 1 1 Tryz.underlying58 hi hz0 hz1 hz2 rfl (by decide) _ _ _ (by rfl) (hown.alloc (.cells #[.int .u8 92, .int .u8 120, .int .u8 (hexC (b / 16) : Nat), .int .u8 (hexC (b % 16) : Nat)] 5)) ⟨w.heap.size, 0, none⟩ 4 4 [.int .u8 92, .int .u8 120, .int .u8 (hexC (b / 16) : Nat), .int .u8 (hexC (b % 16) : Nat)] (by rfl) (by rfl) (World.news_of_block (cs := #[.int .u8 92, .int .u8 120, .int .u8 (hexC (b / 16) : Nat), .int .u8 (hexC (b % 16) : Nat)]) (Blk.new w 5 _)) (by simp [Value.oneCell']) (by omega) (by unfold maxLen; omega) (by omega) (by simp; omega) _ rfl ?_; intro g cap w1 hown1 hgrow _ _))
      all_goals go_wp2
      all_goals go_ret
      all_goals obtain ⟨k1, k2⟩ := own_fin (w1 := (w.alloc _).drew) (hown.alloc _) ((Lib.OthersKept.refl 5 none w).alloc _).drew ((Below.refl n₀ w).alloc hn _).drew hn hgrow
      all_goals refine ⟨_, rfl, ?_, k1, k2⟩
      all_goals have e1 : (l ++ [92, 120, hexC (b / 16), hexC (b % 16)]).length = l.length + 4 := by simp
      all_goals have e2 : (l ++ [92, 120, hexC (b / 16), hexC (b % 16)]).map byteV = l.map byteV ++ [.int .u8 92, .int .u8 120, .int .u8 (hexC (b / 16) : Nat), .int .u8 (hexC (b % 16) : Nat)] := by simp [byteV]
      all_goals rw [e1, e2]
      all_goals exact hown1
    · have d6 : ¬ (32 : Int) ≤ (b : Int) := by omega

      go_enter Tryz.func53, Tryz.ntmps53
      go_wp2
      go_region_law (first | (refine step_append_lies _ (by rfl) _ _ _ (by rfl) n₀ 5 i0 (.int .u8 0) 1 1 Tryz.underlying58 hi hz0 hz1 hz2 rfl (by decide) _ _ _ (by rfl) (hown.alloc (.cells #[.int .u8 92, .int .u8 120, .int .u8 (hexC (b / 16) : Nat), .int .u8 (hexC (b % 16) : Nat)] 5)) ⟨w.heap.size, 0, none⟩ 4 4 [.int .u8 92, .int .u8 120, .int .u8 (hexC (b / 16) : Nat), .int .u8 (hexC (b % 16) : Nat)] (by rfl) (by rfl) (World.news_of_block (cs := #[.int .u8 92, .int .u8 120, .int .u8 (hexC (b / 16) : Nat), .int .u8 (hexC (b % 16) : Nat)]) (Blk.new w 5 _)) (by simp [Value.oneCell']) (by omega) (by unfold maxLen; omega) (by omega) (by simp; omega) _ rfl ?_; intro g cap w1 hown1 hgrow _ _))
      all_goals go_wp2
      all_goals go_ret
      all_goals obtain ⟨k1, k2⟩ := own_fin (w1 := (w.alloc _).drew) (hown.alloc _) ((Lib.OthersKept.refl 5 none w).alloc _).drew ((Below.refl n₀ w).alloc hn _).drew hn hgrow
      all_goals refine ⟨_, rfl, ?_, k1, k2⟩
      all_goals have e1 : (l ++ [92, 120, hexC (b / 16), hexC (b % 16)]).length = l.length + 4 := by simp
      all_goals have e2 : (l ++ [92, 120, hexC (b / 16), hexC (b % 16)]).map byteV = l.map byteV ++ [.int .u8 92, .int .u8 120, .int .u8 (hexC (b / 16) : Nat), .int .u8 (hexC (b % 16) : Nat)] := by simp [byteV]
      all_goals rw [e1, e2]
      all_goals exact hown1
end Go.Proofs.YtdodkbpagbblmaaGreatDoor
end
section
namespace Go.Proofs.YtdodkbpagbblmaaGreatDoor
open Go Go.RowKit

/-- Bytes as they stand between two quotes. -/
def quoteL (l : List UInt8) : List Nat := l.flatMap fun c => quoteB c.toNat
/-- A text in quotes. -/
def quoteF (l : List UInt8) : List Nat := [34] ++ quoteL l ++ [34]
theorem quoteL_len (l : List UInt8) : (quoteL l).length ≤ 4 * l.length := by
  induction l with
  | nil => simp [quoteL]
  | cons c l ih =>
    have := quoteB_len c.toNat
    simp [quoteL] at ih ⊢
    omega
theorem quoteL_snoc (l : List UInt8) (c : UInt8) : quoteL (l ++ [c]) = quoteL l ++ quoteB c.toNat := by simp [quoteL]
theorem quoteF_len (l : List UInt8) : (quoteF l).length ≤ 4 * l.length + 2 := by
  have := quoteL_len l
  unfold quoteF
  simp
  omega
theorem take_at (s : ByteArray) (k : Nat) (h : k < s.size) : s.data.toList.take (k + 1) = s.data.toList.take k ++ [s[k]] := by
  have h' : k < s.data.toList.length := by rw [← Lib.size_eq]; exact h
  rw [List.take_succ_eq_append_getElem h']
  congr 1

set_option maxRecDepth 100000 in
set_option maxHeartbeats 4000000 in
theorem appendQuoted_any (v : Value) (l : List Nat) (s : ByteArray) (hs : s.size ≤ 1048576) (n₀ : Nat) (w : World) (hown : w.ownsRow n₀ 5 1 v l.length (l.map byteV)) (hn : n₀ ≤ w.heap.size) (hl : l.length ≤ 10000000) :
    Calls Tryz.prog 32 #[v, .string s] w (bytePost (l ++ quoteF s.data.toList) n₀ w) := by
  obtain ⟨i0, hi, hz0, hz1, hz2⟩ := info_parts Tryz.info5
  go_enter Tryz.func32, Tryz.ntmps32
  go_wp2_with (at_builtin; refine wpList_append_own _ rfl _ _ 58 rfl n₀ 5 i0 (.int .u8 0) 1 1 Tryz.underlying58 hi hz0 hz1 hz2 rfl (by decide) _ _ _ rfl (hown.alloc _) ⟨w.heap.size, 0, none⟩ 1 1 [.int .u8 34] rfl rfl (cell_one_new _ _ _) (by simp [Value.oneCell']) (by unfold maxLen; omega) (by omega) (by simp; omega) ?_; intro v1 w1 hown1 hgrow _)
  have hf := own_fin (hown.alloc (.cells #[.int .u8 34] 5)) ((Lib.OthersKept.refl 5 none w).alloc _) ((Below.refl n₀ w).alloc hn _) hn hgrow
  have hO1 : Hid (w1.ownsRow n₀ 5 1 v1 (l ++ [34] ++ quoteL (s.data.toList.take 0)).length ((l ++ [34] ++ quoteL (s.data.toList.take 0)).map byteV)) := by
    refine Lib.hid ?_
    have e1 : (l ++ [34] ++ quoteL (s.data.toList.take 0)).length = l.length + 1 := by simp [quoteL]
    have e2 : (l ++ [34] ++ quoteL (s.data.toList.take 0)).map byteV = l.map byteV ++ [.int .u8 34] := by simp [byteV, quoteL]
    rw [e1, e2]; exact hown1
  have hK1 := Lib.hid hf.1
  have hB1 := Lib.hid hf.2
  clear hown1 hf hgrow hown
  go_wp2
  go_loopw [0, 11] (fun q p wr => ∃ (k : Nat), p = .int .i64 k ∧ k ≤ s.size ∧ Hid (wr.ownsRow n₀ 5 1 q (l ++ [34] ++ quoteL (s.data.toList.take k)).length ((l ++ [34] ++ quoteL (s.data.toList.take k)).map byteV)) ∧ Hid (Lib.OthersKept 5 none w wr) ∧ Hid (Below n₀ w wr))
    (fun _ p _ => s.size - (intOf p).toNat)
  case atStart => exact ⟨0, rfl, Nat.zero_le _, hO1, hK1, hB1⟩
  case round =>
    clear hO1 hK1 hB1
    obtain ⟨k, rfl, hk, hO, hK, hB⟩ := hrel
    have hszr : n₀ ≤ wr.heap.size := Nat.le_trans hn hB.out.size
    have hll : (l ++ [34] ++ quoteL (s.data.toList.take k)).length ≤ 20000000 := by
      have h1 := quoteL_len (s.data.toList.take k)
      rw [List.length_take, ← Lib.size_eq] at h1
      simp only [List.length_append, List.length_cons, List.length_nil]
      omega
    by_cases hlt : k < s.size
    · obtain ⟨b, hb⟩ : ∃ b, b = (s[k]'hlt).toNat := ⟨_, rfl⟩
      have hbl : b < 256 := by rw [hb]; exact (s[k]'hlt).toNat_lt
      have hib : ∀ h, (s[k]'h).toNat = b := fun h => hb.symm
      have HL : Hid (l ++ [34] ++ quoteL (s.data.toList.take k) ++ quoteB b = l ++ [34] ++ quoteL (s.data.toList.take (k + 1))) := by
        refine Lib.hid ?_
        rw [take_at s k hlt, quoteL_snoc, ← hb, List.append_assoc (l ++ [34])]
      have HC := Lib.hid (quoteB_any u0 (l ++ [34] ++ quoteL (s.data.toList.take k)) b hbl n₀ wr hO.out hszr (by omega))
      rw [HL.out] at HC
      clear hb HL hO
      go_wp2_with (go_at_call 53; refine HC.out.mono ?_; rintro e w3 ⟨v3, rfl, hown3, hk3, hB3⟩)
      have hO3 := Lib.hid hown3
      have hK3 := Lib.hid (hK.out.trans hk3)
      have hB3' := Lib.hid (hB.out.trans hB3)
      clear hown3 hk3 hB3 HC hK hB
      go_wp2
      go_roundw
      case rel => exact ⟨k + 1, by go_num, by omega, hO3, hK3, hB3'⟩
      case measure => simp [intOf]; omega
    · obtain rfl : k = s.size := by omega
      rw [show s.data.toList.take s.size = s.data.toList from by rw [Lib.size_eq, List.take_length]] at hO hll
      obtain ⟨L, hL⟩ : ∃ L, L = l ++ [34] ++ quoteL s.data.toList := ⟨_, rfl⟩
      have HE : Hid (l ++ quoteF s.data.toList = L ++ [34]) := Lib.hid (by rw [hL]; simp [quoteF])
      rw [← hL] at hO hll
      clear hL
      go_wp2_with (at_builtin; refine wpList_append_own _ rfl _ _ 58 rfl n₀ 5 i0 (.int .u8 0) 1 1 Tryz.underlying58 hi hz0 hz1 hz2 rfl (by decide) _ _ _ rfl (hO.out.alloc _) ⟨wr.heap.size, 0, none⟩ 1 1 [.int .u8 34] rfl rfl (cell_one_new _ _ _) (by simp [Value.oneCell']) (by unfold maxLen; omega) (by omega) (by simp; omega) ?_; intro v4 w4 hown4 hgrow4 _)
      have hf4 := own_fin (hO.out.alloc _) ((Lib.OthersKept.refl 5 none wr).alloc _) ((Below.refl n₀ wr).alloc hszr _) hszr hgrow4
      go_ret
      refine ⟨v4, rfl, ?_, hK.out.trans hf4.1, hB.out.trans hf4.2⟩
      have e1 : (L ++ [34]).length = L.length + 1 := by simp
      have e2 : (L ++ [34]).map byteV = L.map byteV ++ [.int .u8 34] := by simp [byteV]
      rw [HE.out, e1, e2]; exact hown4
end Go.Proofs.YtdodkbpagbblmaaGreatDoor
end
section
namespace Go.Proofs.YtdodkbpagbblmaaGreatDoor
open Go Go.RowKit

set_option maxRecDepth 100000 in
set_option maxHeartbeats 1000000 in
theorem caught_any (p : Addr) (x : Int) (older : List PanicEntry) (w : World) (hc : w.cell? p = some (.int .i64 x)) (hz : w.frozen? p = false) :
    CallsD Tryz.prog 45 #[.pointer (some p)] (.panicking ({ v := .iface 72 (.agg #[.int .i64 130]), recovered := false } :: older)) w fun e u' w' =>
      e = .returned (.tuple #[]) ∧ u' = .panicking ({ v := .iface 72 (.agg #[.int .i64 130]), recovered := true } :: older) ∧ w' = w.setCell p (.int .i64 130) := by
  refine callsD_of_wpS Tryz.func45 rfl fun c₀ cs hu => ?_
  apply wpS_seq
  apply wpS_region
  simp [wpOpsS, go_sem, recoverD, hu, Tryz.ntmps45, Exit.thenS]
  rw [show (#[Value.pointer (some p)] ++ ((Array.replicate 7 undef).setIfInBounds 1 (.iface 72 (.agg #[.int .i64 130]))).setIfInBounds 0 (.iface 72 (.agg #[.int .i64 130]))) = #[.pointer (some p), .iface 72 (.agg #[.int .i64 130]), .iface 72 (.agg #[.int .i64 130]), undef, undef, undef, undef, undef] from rfl]
  refine wpS_of_wp ?_
  have hta : ∀ w : World, (Instr.typeAssert (.iface 72 (.agg #[.int .i64 130])) 20 72 false).run Tryz.prog w = .ok (.agg #[.int .i64 130]) w := fun w => by kernel_rfl
  have hfd : ∀ w : World, (Instr.field 72 (.agg #[.int .i64 130]) 0).run Tryz.prog w = .ok (.int .i64 130) w := fun w => by kernel_rfl
  go_wp2
  cases c₀
  simp_all [bodyPostS, results, Tryz.results45]

theorem idle_any (p : Addr) (w : World) :
    CallsD Tryz.prog 45 #[.pointer (some p)] .returning w fun e u' w' => e = .returned (.tuple #[]) ∧ u' = .returning ∧ w' = w := by
  refine callsD_of_wpS Tryz.func45 rfl fun c₀ cs hu => ?_
  apply wpS_seq
  apply wpS_region
  simp [wpOpsS, go_sem, recoverD, hu, Tryz.ntmps45, Exit.thenS]
  rw [show (#[Value.pointer (some p)] ++ ((Array.replicate 7 undef).setIfInBounds 1 Value.nilIface).setIfInBounds 0 Value.nilIface) = #[.pointer (some p), .nilIface, .nilIface, undef, undef, undef, undef, undef] from rfl]
  refine wpS_of_wp ?_
  go_wp2
  cases c₀
  simp_all [bodyPostS, results, Tryz.results45]

theorem upto_eq {t : ByteArray} {a b : Nat} (h : a = b) (W : World) (B : Nat) : Rdr W B t a → Rdr W B t b := by rw [h]; exact id

/-- What a step, taken, leaves: a word, the end, or the place of what can't be read. -/
def TakeP (B : Nat) (t : ByteArray) (k : Nat) (w : World) (e : Ending) (w' : World) : Prop :=
  w.grownBy w' (some B) ∧ (if k = t.size then e = .returned (.tuple #[wordV noWd 0, .bool false, .int .i64 0]) ∧ Rdr w' B t k
    else match nextW (t.data.toList.drop k) with
    | some p => e = .returned (.tuple #[wordV p.1 k, .bool true, .int .i64 0]) ∧ Rdr w' B t (k + p.2)
    | none => e = .returned (.tuple #[wordV noWd 0, .bool false, .int .i64 130]) ∧ Rdr w' B t k)

theorem store8 {W : World} {Z T : Nat} {a0 a1 a2 a3 a4 a5 a6 a7 : Value} (h : Blk W Z T #[a0, a1, a2, a3, a4, a5, a6, a7]) (v0 v1 v2 v3 v4 v5 v6 v7 : Value) :
    Blk ((((((((W.setCell ⟨Z, 0, none⟩ v0).setCell ⟨Z, 1, none⟩ v1).setCell ⟨Z, 2, none⟩ v2).setCell ⟨Z, 3, none⟩ v3).setCell ⟨Z, 4, none⟩ v4).setCell ⟨Z, 5, none⟩ v5).setCell ⟨Z, 6, none⟩ v6).setCell ⟨Z, 7, none⟩ v7) Z T #[v0, v1, v2, v3, v4, v5, v6, v7] := by
  have h0 : Blk _ Z T #[v0, a1, a2, a3, a4, a5, a6, a7] := h.set 0 v0
  have h1 : Blk _ Z T #[v0, v1, a2, a3, a4, a5, a6, a7] := h0.set 1 v1
  have h2 : Blk _ Z T #[v0, v1, v2, a3, a4, a5, a6, a7] := h1.set 2 v2
  have h3 : Blk _ Z T #[v0, v1, v2, v3, a4, a5, a6, a7] := h2.set 3 v3
  have h4 : Blk _ Z T #[v0, v1, v2, v3, v4, a5, a6, a7] := h3.set 4 v4
  have h5 : Blk _ Z T #[v0, v1, v2, v3, v4, v5, a6, a7] := h4.set 5 v5
  have h6 : Blk _ Z T #[v0, v1, v2, v3, v4, v5, v6, a7] := h5.set 6 v6
  exact h6.set 7 v7
theorem store8o {W : World} {Z E T : Nat} {cs : Array Value} (h : Blk W E T cs) (hne : ¬ E = Z) (v0 v1 v2 v3 v4 v5 v6 v7 : Value) :
    Blk ((((((((W.setCell ⟨Z, 0, none⟩ v0).setCell ⟨Z, 1, none⟩ v1).setCell ⟨Z, 2, none⟩ v2).setCell ⟨Z, 3, none⟩ v3).setCell ⟨Z, 4, none⟩ v4).setCell ⟨Z, 5, none⟩ v5).setCell ⟨Z, 6, none⟩ v6).setCell ⟨Z, 7, none⟩ v7) E T cs :=
  (((((((h.other (a := ⟨Z, 0, none⟩) hne _).other (a := ⟨Z, 1, none⟩) hne _).other (a := ⟨Z, 2, none⟩) hne _).other (a := ⟨Z, 3, none⟩) hne _).other (a := ⟨Z, 4, none⟩) hne _).other (a := ⟨Z, 5, none⟩) hne _).other (a := ⟨Z, 6, none⟩) hne _).other (a := ⟨Z, 7, none⟩) hne _
theorem res14 (W : World) (Z E : Nat) (x : Wd) (n : Int) (bb : Value) (e : Int) (a : Array Value) (h2 : a[2]? = some (.pointer (some ⟨Z, 0, none⟩))) (h3 : a[3]? = some bb) (h4 : a[4]? = some (.pointer (some ⟨E, 0, none⟩)))
    (hz : Blk W Z 35 (wordC x n)) (he : W.cell? ⟨E, 0, none⟩ = some (.int .i64 e)) : (results Tryz.f22 a).run Tryz.prog W = .ok (.tuple #[wordV x n, bb, .int .i64 e]) W := by
  have z0 : W.cell? ⟨Z, 0, none⟩ = some (.int .i64 x.kind) := hz.cell 0
  have z1 : W.cell? ⟨Z, 1, none⟩ = some (.int .i64 n) := hz.cell 1
  have z2 : W.cell? ⟨Z, 2, none⟩ = some (.string x.txt) := hz.cell 2
  have z3 : W.cell? ⟨Z, 3, none⟩ = some (.int .u64 (wdI x.set 0)) := hz.cell 3
  have z4 : W.cell? ⟨Z, 4, none⟩ = some (.int .u64 (wdI x.set 1)) := hz.cell 4
  have z5 : W.cell? ⟨Z, 5, none⟩ = some (.int .u64 (wdI x.set 2)) := hz.cell 5
  have z6 : W.cell? ⟨Z, 6, none⟩ = some (.int .u64 (wdI x.set 3)) := hz.cell 6
  have z7 : W.cell? ⟨Z, 7, none⟩ = some (.int .i64 x.num) := hz.cell 7
  simp [results, Tryz.results22, go_sem, wordV, wordC, h2, h3, h4, z0, z1, z2, z3, z4, z5, z6, z7, he]

set_option maxRecDepth 100000 in
set_option maxHeartbeats 4000000 in
theorem taken_any (B : Nat) (t : ByteArray) (k : Nat) (ht : t.size ≤ 1048576) (hk : k ≤ t.size) (w : World) (hG : GlobD w) (hB : Rdr w B t k) (hB4 : 4 < B) :
    Calls Tryz.prog 22 #[.func (.func 21) #[.pointer (some ⟨B, 0, none⟩)] #[]] w (TakeP B t (k + skipL (t.data.toList.drop k)) w) := by
  have hmf : ∀ (fn : Fn) (first cap : Array Value) (w : World), (Instr.makeFunc fn first cap).run Tryz.prog w = .ok (.func fn first cap) w := fun _ _ _ _ => rfl
  have hA0 : Below w.heap.size w ((w.alloc (.cells #[.int .i64 0, .int .i64 0, .string ⟨#[]⟩, .int .u64 0, .int .u64 0, .int .u64 0, .int .u64 0, .int .i64 0] 35)).alloc (.cells #[.int .i64 0] 24)) := ((Below.refl _ w).alloc (Nat.le_refl _) _).alloc (by simp) _
  have hBa := Blk.below hB hA0 hB.lt
  have hz0 : Blk ((w.alloc (.cells #[.int .i64 0, .int .i64 0, .string ⟨#[]⟩, .int .u64 0, .int .u64 0, .int .u64 0, .int .u64 0, .int .i64 0] 35)).alloc (.cells #[.int .i64 0] 24)) w.heap.size 35 #[.int .i64 0, .int .i64 0, .string ⟨#[]⟩, .int .u64 0, .int .u64 0, .int .u64 0, .int .u64 0, .int .i64 0] := (Blk.new w 35 _).alloc _
  have he0 : Blk ((w.alloc (.cells #[.int .i64 0, .int .i64 0, .string ⟨#[]⟩, .int .u64 0, .int .u64 0, .int .u64 0, .int .u64 0, .int .i64 0] 35)).alloc (.cells #[.int .i64 0] 24)) (w.heap.size + 1) 24 #[.int .i64 0] := by
    have := Blk.new (w.alloc (.cells #[.int .i64 0, .int .i64 0, .string ⟨#[]⟩, .int .u64 0, .int .u64 0, .int .u64 0, .int .u64 0, .int .i64 0] 35)) 24 #[.int .i64 0]
    rw [World.size_alloc] at this
    exact this
  have HN := Lib.hid (next_any B t k ht hk _ (hG.below (Nat.le_refl _) hA0) hBa hB4)
  have hne := hB.lt
  obtain ⟨m, hm⟩ : ∃ m, m = k + skipL (t.data.toList.drop k) := ⟨_, rfl⟩
  rw [← hm] at HN ⊢
  have HA0 := Lib.hid hA0
  have HZ0 := Lib.hid hz0
  have HE0 := Lib.hid he0
  clear hm hB hBa hA0 hz0 he0 hG
  go_enter_defers Tryz.func22, Tryz.ntmps22
  go_wp2_with fail
  refine HN.out.mono ?_
  rintro e w1 ⟨hg1, h1⟩
  have hz1 := HZ0.out.kept hg1 (by simp; omega)
  have he1 := HE0.out.kept hg1 (by simp; omega)
  have hg : w.grownBy w1 (some B) := (grown_of_below' HA0.out (some B)).andThen hg1 (fun _ e => .inr e)
  have HG1 := Lib.hid hg
  have hszz := hg1.size
  simp only [World.size_alloc] at hszz
  have z0 : w1.cell? ⟨w.heap.size, 0, none⟩ = some (.int .i64 0) := hz1.cell 0
  have z1 : w1.cell? ⟨w.heap.size, 1, none⟩ = some (.int .i64 0) := hz1.cell 1
  have z2 : w1.cell? ⟨w.heap.size, 2, none⟩ = some (.string ⟨#[]⟩) := hz1.cell 2
  have z3 : w1.cell? ⟨w.heap.size, 3, none⟩ = some (.int .u64 0) := hz1.cell 3
  have z4 : w1.cell? ⟨w.heap.size, 4, none⟩ = some (.int .u64 0) := hz1.cell 4
  have z5 : w1.cell? ⟨w.heap.size, 5, none⟩ = some (.int .u64 0) := hz1.cell 5
  have z6 : w1.cell? ⟨w.heap.size, 6, none⟩ = some (.int .u64 0) := hz1.cell 6
  have z7 : w1.cell? ⟨w.heap.size, 7, none⟩ = some (.int .i64 0) := hz1.cell 7
  have zf := hz1.frozen
  have zl := hz1.lt
  have ef := he1.frozen
  have el := he1.lt
  have e0 : w1.cell? ⟨w.heap.size + 1, 0, none⟩ = some (.int .i64 0) := he1.cell 0
  have e5 : w.heap.size ≤ w.heap.size := Nat.le_refl _
  have e6 : w.heap.size ≤ w.heap.size + 1 := by omega
  have e7 : ¬ B = w.heap.size := by omega
  have e8 : ¬ B = w.heap.size + 1 := by omega
  have HZ1 := Lib.hid hz1
  have HE1 := Lib.hid he1
  clear hz1 he1 hg1 hg HA0 HZ0 HE0 HN
  have e9 : ¬ w.heap.size = w.heap.size + 1 := by omega
  have e9' : ¬ w.heap.size + 1 = w.heap.size := by omega
  by_cases hend : m = t.size
  · rw [if_pos hend] at h1
    obtain ⟨rfl, hr1⟩ := h1
    have HR1 := Lib.hid hr1
    have HQ : Hid (∀ e w', (w.grownBy w' (some B) ∧ e = .returned (.tuple #[wordV noWd 0, .bool false, .int .i64 0]) ∧ Rdr w' B t m) → TakeP B t m w e w') := Lib.hid (fun e w' h => by unfold TakeP; rw [if_pos hend]; exact h)
    clear hend hr1
    unfold wordV wordC noWd
    go_wp2
    refine leaves_cons (f := 45) (args := #[.pointer (some ⟨w.heap.size + 1, 0, none⟩)]) (by simp) (by simp [go_sem]) ?_
    refine (idle_any _ _).mono ?_
    rintro e u' w'' ⟨rfl, rfl, rfl⟩
    refine ⟨.tuple #[wordV noWd 0, .bool false, .int .i64 0], res14 _ _ _ noWd 0 (.bool false) 0 _ rfl rfl rfl ((store8 (store8 HZ1.out _ _ _ _ _ _ _ _) _ _ _ _ _ _ _ _).other e9 _) (((store8o (store8o HE1.out e9' _ _ _ _ _ _ _ _) e9' _ _ _ _ _ _ _ _).set 0 (.int .i64 0)).cell 0), ?_⟩
    refine HQ.out _ _ ⟨?_, rfl, ?_⟩
    · repeat (first | with_reducible exact HG1.out | with_reducible refine grown_drew ?_ | with_reducible refine grown_new ?_ (by assumption) _ _)
    · repeat (first | with_reducible exact HR1.out | with_reducible refine Blk.drew ?_ | with_reducible refine Blk.other ?_ (by assumption) _)
  · rw [if_neg hend] at h1
    cases hnw : nextW (t.data.toList.drop m) with
    | some pr =>
      rw [hnw] at h1
      obtain ⟨rfl, hr1⟩ := h1
      have HR1 := Lib.hid hr1
      have HQ : Hid (∀ e w', (w.grownBy w' (some B) ∧ e = .returned (.tuple #[wordV pr.1 m, .bool true, .int .i64 0]) ∧ Rdr w' B t (m + pr.2)) → TakeP B t m w e w') := Lib.hid (fun e w' h => by unfold TakeP; rw [if_neg hend, hnw]; exact h)
      clear hend hr1 hnw
      unfold wordV wordC
      go_wp2
      refine leaves_cons (f := 45) (args := #[.pointer (some ⟨w.heap.size + 1, 0, none⟩)]) (by simp) (by simp [go_sem]) ?_
      refine (idle_any _ _).mono ?_
      rintro e u' w'' ⟨rfl, rfl, rfl⟩
      refine ⟨.tuple #[wordV pr.1 m, .bool true, .int .i64 0], res14 _ _ _ pr.1 m (.bool true) 0 _ rfl rfl rfl ((store8 (store8 HZ1.out _ _ _ _ _ _ _ _) _ _ _ _ _ _ _ _).other e9 _) (((store8o (store8o HE1.out e9' _ _ _ _ _ _ _ _) e9' _ _ _ _ _ _ _ _).set 0 (.int .i64 0)).cell 0), ?_⟩
      refine HQ.out _ _ ⟨?_, rfl, ?_⟩
      · repeat (first | with_reducible exact HG1.out | with_reducible refine grown_drew ?_ | with_reducible refine grown_new ?_ (by assumption) _ _)
      · repeat (first | with_reducible exact HR1.out | with_reducible refine Blk.drew ?_ | with_reducible refine Blk.other ?_ (by assumption) _)
    | none =>
      rw [hnw] at h1
      obtain ⟨rfl, hr1⟩ := h1
      have HR1 := Lib.hid hr1
      have HQ : Hid (∀ e w', (w.grownBy w' (some B) ∧ e = .returned (.tuple #[wordV noWd 0, .bool false, .int .i64 130]) ∧ Rdr w' B t m) → TakeP B t m w e w') := Lib.hid (fun e w' h => by unfold TakeP; rw [if_neg hend, hnw]; exact h)
      clear hend hr1 hnw
      go_wp2
      refine leaves_cons (f := 45) (args := #[.pointer (some ⟨w.heap.size + 1, 0, none⟩)]) (by simp) (by simp [go_sem]) ?_
      unfold gone
      refine (caught_any ⟨w.heap.size + 1, 0, none⟩ 0 [] _ e0 (ef 0)).mono ?_
      rintro e u' w'' ⟨rfl, rfl, rfl⟩
      simp only [Leaves, settle]
      refine ⟨.tuple #[wordV noWd 0, .bool false, .int .i64 130], by simp [results, Tryz.results22, go_sem, wordV, wordC, noWd, wz.1, wz.2.1, wz.2.2.1, wz.2.2.2, z0, z1, z2, z3, z4, z5, z6, z7, zf, zl, ef, el, e0, e9, e9'], ?_⟩
      refine HQ.out _ _ ⟨?_, rfl, ?_⟩
      · repeat (first | with_reducible exact HG1.out | with_reducible refine grown_drew ?_ | with_reducible refine grown_new ?_ (by assumption) _ _)
      · repeat (first | with_reducible exact HR1.out | with_reducible refine Blk.drew ?_ | with_reducible refine Blk.other ?_ (by assumption) _)
end Go.Proofs.YtdodkbpagbblmaaGreatDoor
end
section
namespace Go.Proofs.YtdodkbpagbblmaaGreatDoor
open Go Go.RowKit

theorem Tryz.info35 : (Tryz.prog.info? 35).map (fun i => (i.zero, i.size, i.bytes)) = some (some (.agg #[.int .i64 0, .int .i64 0, .string ⟨#[]⟩, .int .u64 0, .int .u64 0, .int .u64 0, .int .u64 0, .int .i64 0]), 8, 72) := by kernel_rfl

theorem hexs_none_nil : readS [] = none := by decide
theorem runL_pos (c : UInt8) (r : List UInt8) (h : namB c.toNat = true) : 1 ≤ runL (c :: r) := by rw [runL_cons, if_pos h]; omega
theorem textF_le : ∀ (f : Nat) (l : List UInt8) (p : List Nat × Nat), textF f l = some p → p.2 ≤ l.length := by
  intro f
  induction f with
  | zero => intro l p h; simp [textF] at h
  | succ f ih =>
    intro l p h
    unfold textF at h
    split at h
    · rename_i hp
      cases h
      cases l with
      | nil => simp [Lib.hasPrefix] at hp
      | cons c r => simp
    · split at h
      · cases h
      · rename_i h0
        rw [Option.map_eq_some_iff] at h
        obtain ⟨q, hq, rfl⟩ := h
        have h1 := ih _ _ hq
        have h2 := (byteD_lt l).2
        rw [List.length_drop] at h1
        simp only
        omega
/-- A word is no longer than the text, and not empty. -/
theorem nextW_len (l : List UInt8) (p : Wd × Nat) (h : nextW l = some p) : 1 ≤ p.2 ∧ p.2 ≤ l.length := by
  cases l with
  | nil => cases h
  | cons c r =>
    rw [nextW_of (c :: r) c r rfl c.toNat rfl] at h
    have hr := runL_le (c :: r)
    have hs := setL_le _ (c :: r) (Nat.le_refl _)
    split at h
    · rename_i hl
      split at h
      · cases h
        refine ⟨runL_pos c r ?_, hr⟩
        simp [namB] at hl ⊢
        rcases hl with h | h
        · exact .inl (.inl h)
        · exact .inr h
      · cases h
    · split at h
      · rename_i hd
        rw [Option.map_eq_some_iff] at h
        obtain ⟨q, _, rfl⟩ := h
        exact ⟨runL_pos c r (by simp [namB, hd]), hr⟩
      · split at h
        · rw [Option.map_eq_some_iff] at h
          obtain ⟨q, hq, rfl⟩ := h
          have := textF_le _ _ _ hq
          simp only [List.length_cons]
          omega
        · split at h
          · rw [Option.map_eq_some_iff] at h
            obtain ⟨q, hq, rfl⟩ := h
            refine ⟨?_, hs⟩
            simp only
            rcases Nat.eq_zero_or_pos (setL (c :: r)) with h0 | h0
            · unfold setO at hq
              rw [h0] at hq
              simp [hexs_none_nil] at hq
            · exact h0
          · split at h
            · cases h; simp
            · cases h

/-- The words of a text's rest, that begins at a place; and the place of what can't be read. -/
def lexF : Nat → List UInt8 → Nat → List (Wd × Nat) × Option Nat
  | 0, _, _ => ([], none)
  | f + 1, l, k =>
    if l.drop (skipL l) = [] then ([], none) else
    match nextW (l.drop (skipL l)) with
    | none => ([], some (k + skipL l))
    | some p => ((p.1, k + skipL l) :: (lexF f ((l.drop (skipL l)).drop p.2) (k + skipL l + p.2)).1, (lexF f ((l.drop (skipL l)).drop p.2) (k + skipL l + p.2)).2)
def lexAt (l : List UInt8) (k : Nat) : List (Wd × Nat) × Option Nat := lexF (l.length + 1) l k

theorem lexF_more : ∀ (n : Nat) (l : List UInt8), l.length ≤ n → ∀ f k, l.length + 1 ≤ f → lexF f l k = lexF (l.length + 1) l k := by
  intro n
  induction n with
  | zero =>
    intro l hl f k hf
    have : l = [] := List.length_eq_zero_iff.1 (by omega)
    subst this
    obtain ⟨g, rfl⟩ : ∃ g, f = g + 1 := ⟨f - 1, by simp at hf; omega⟩
    rfl
  | succ n ih =>
    intro l hl f k hf
    obtain ⟨g, rfl⟩ : ∃ g, f = g + 1 := ⟨f - 1, by omega⟩
    unfold lexF
    split
    · rfl
    · split
      · rfl
      · rename_i p hp
        have h1 := nextW_len _ p hp
        have h2 := skipL_le l
        rw [List.length_drop] at h1
        have hd : ((l.drop (skipL l)).drop p.2).length + 1 ≤ l.length := by rw [List.length_drop, List.length_drop]; omega
        rw [ih _ (by omega) g _ (by omega), ih _ (by omega) l.length _ hd]
theorem lexAt_end (l : List UInt8) (k : Nat) (h : l.drop (skipL l) = []) : lexAt l k = ([], none) := by
  unfold lexAt lexF; rw [if_pos h]
theorem lexAt_bad (l : List UInt8) (k : Nat) (h : l.drop (skipL l) ≠ []) (hn : nextW (l.drop (skipL l)) = none) : lexAt l k = ([], some (k + skipL l)) := by
  unfold lexAt lexF; rw [if_neg h, hn]
theorem lexAt_step (l : List UInt8) (k : Nat) (p : Wd × Nat) (h : l.drop (skipL l) ≠ []) (hn : nextW (l.drop (skipL l)) = some p) :
    lexAt l k = ((p.1, k + skipL l) :: (lexAt ((l.drop (skipL l)).drop p.2) (k + skipL l + p.2)).1, (lexAt ((l.drop (skipL l)).drop p.2) (k + skipL l + p.2)).2) := by
  have h1 := nextW_len _ p hn
  have h2 := skipL_le l
  rw [List.length_drop] at h1
  have hd : ((l.drop (skipL l)).drop p.2).length + 1 ≤ l.length := by rw [List.length_drop, List.length_drop]; omega
  unfold lexAt
  conv => lhs; unfold lexF
  rw [if_neg h, hn]
  simp only
  rw [lexF_more _ _ (Nat.le_refl _) l.length _ hd]

def wcells (p : Wd × Nat) : List Value := [.int .i64 p.1.kind, .int .i64 (p.2 : Int), .string p.1.txt, .int .u64 (wdI p.1.set 0), .int .u64 (wdI p.1.set 1), .int .u64 (wdI p.1.set 2), .int .u64 (wdI p.1.set 3), .int .i64 p.1.num]
def cellsW (ws : List (Wd × Nat)) : List Value := ws.flatMap wcells
theorem cellsW_snoc (ws : List (Wd × Nat)) (p : Wd × Nat) : cellsW (ws ++ [p]) = cellsW ws ++ wcells p := by simp [cellsW]
end Go.Proofs.YtdodkbpagbblmaaGreatDoor
end
section
namespace Go.Proofs.YtdodkbpagbblmaaGreatDoor
open Go Go.RowKit

theorem GlobD.above {w w' : World} {n : Nat} (h : GlobD w) (hn : 4 < n) (hB : Below n w w') : GlobD w' :=
  h.at5 (fun i hi => hB.block i (by omega)) hB.size

theorem byteT_small (b : Nat) (hb : b < 256) : ∀ x ∈ byteT b, x < 256 := by
  have hx : ∀ n, n < 16 → hexC n < 256 := fun n h => by unfold hexC; split <;> omega
  unfold byteT
  repeat' split
  all_goals simp
  all_goals (try omega)
  exact ⟨hx _ (by omega), hx _ (by omega)⟩
theorem rangeT_small (r : Nat × Nat) (h1 : r.1 < 256) (h2 : r.2 < 256) : ∀ x ∈ rangeT r, x < 256 := by
  intro x hx
  unfold rangeT at hx
  split at hx
  · exact byteT_small _ h1 x hx
  · split at hx
    · rw [List.mem_append, List.mem_append] at hx
      rcases hx with (hx | hx) | hx
      · exact byteT_small _ h1 x hx
      · simp at hx; omega
      · exact byteT_small _ h2 x hx
    · rw [List.mem_append] at hx
      rcases hx with hx | hx
      · exact byteT_small _ h1 x hx
      · exact byteT_small _ h2 x hx
theorem rangesT_small (rs : List (Nat × Nat)) (h : SmallR rs) : ∀ x ∈ rangesT rs, x < 256 := by
  intro x hx
  unfold rangesT at hx
  rw [List.mem_flatMap] at hx
  obtain ⟨r, hr, hx⟩ := hx
  exact rangeT_small r (h r hr).1 (h r hr).2 x hx
theorem textS_small (s : BS) : ∀ x ∈ textS s, x < 256 := by
  intro x hx
  have h : ∀ s : BS, ∀ x ∈ rangesT (rngs (bytesL s)), x < 256 := fun s => rangesT_small _ (rngs_small _ fun y hy => ((mem_bytesL s y).1 hy).1)
  unfold textS at hx
  split at hx
  · rw [List.mem_append, List.mem_append] at hx
    rcases hx with (hx | hx) | hx
    · simp at hx; omega
    · exact h _ x hx
    · simp at hx; omega
  · rw [List.mem_append, List.mem_append] at hx
    rcases hx with (hx | hx) | hx
    · simp at hx; omega
    · exact h _ x hx
    · simp at hx; omega
theorem textS_len (s : BS) : (textS s).length ≤ 3000 := by
  have h1 := rangesT_len (rngs (bytesL s))
  have h2 := rangesT_len (rngs (bytesL (~~~s)))
  have h3 := rngs_length (bytesL s)
  have h4 := rngs_length (bytesL (~~~s))
  have h5 := length_bytesL s
  have h6 := length_bytesL (~~~s)
  unfold textS
  split <;> simp <;> omega
theorem bytesStr_list (l : List Nat) : (bytesStr l).data.toList = l.map UInt8.ofNat := by
  unfold bytesStr
  rw [strOfNums_data, List.map_map]
  rfl
theorem bytesStr_size (l : List Nat) : (bytesStr l).size = l.length := by
  rw [Lib.size_eq, bytesStr_list, List.length_map]
theorem cells_bytesStr (l : List Nat) (h : ∀ x ∈ l, x < 256) : Lib.strCells (bytesStr l) = l.map byteV := by
  unfold Lib.strCells
  rw [bytesStr_list, List.map_map]
  refine List.map_congr_left fun x hx => ?_
  have := h x hx
  simp [byteV, UInt8.toNat_ofNat', Nat.mod_eq_of_lt this]

/-- A word's text. -/
def wordF (x : Wd) : List Nat :=
  if x.kind = 2 then quoteF x.txt.data.toList else if x.kind = 3 then textS x.set else if x.kind = 4 then (Lib.itoa x.num).map UInt8.toNat else x.txt.data.toList.map UInt8.toNat
theorem strCells_nat (s : ByteArray) : Lib.strCells s = (s.data.toList.map UInt8.toNat).map byteV := by
  unfold Lib.strCells
  rw [List.map_map]
  rfl
theorem byteCells_nat (l : List UInt8) : Lib.byteCells l = (l.map UInt8.toNat).map byteV := by
  unfold Lib.byteCells
  rw [List.map_map]
  rfl

set_option maxRecDepth 100000 in
set_option maxHeartbeats 4000000 in
theorem appendWord_any (v : Value) (l : List Nat) (x : Wd) (a : Int) (ht : x.txt.size ≤ 1048576) (hm0 : -9223372036854775808 ≤ x.num) (hm1 : x.num ≤ 9223372036854775807) (n₀ : Nat) (w : World) (hG : GlobD w) (h4 : 4 < n₀) (hown : w.ownsRow n₀ 5 1 v l.length (l.map byteV)) (hn : n₀ ≤ w.heap.size) (hl : l.length ≤ 9000000) :
    Calls Tryz.prog 27 #[v, wordV x a] w (bytePost (l ++ wordF x) n₀ w) := by
  obtain ⟨i0, hi, hz0, hz1, hz2⟩ := info_parts Tryz.info5
  obtain ⟨kd, tx, st, nm⟩ := x
  dsimp only at ht hm0 hm1
  have hB0 : Hid (Below n₀ w (w.alloc (.cells (wordC ⟨kd, tx, st, nm⟩ a) 35))) := (Below.refl n₀ w).alloc hn _
  have hK0 : Hid (Lib.OthersKept 5 none w (w.alloc (.cells (wordC ⟨kd, tx, st, nm⟩ a) 35))) := (Lib.OthersKept.refl 5 none w).alloc _
  have hO0 : Hid ((w.alloc (.cells (wordC ⟨kd, tx, st, nm⟩ a) 35)).ownsRow n₀ 5 1 v l.length (l.map byteV)) := hown.alloc _
  have hG0 : Hid (GlobD (w.alloc (.cells (wordC ⟨kd, tx, st, nm⟩ a) 35))) := hG.above h4 hB0.out
  have hsz : n₀ ≤ (w.alloc (.cells (wordC ⟨kd, tx, st, nm⟩ a) 35)).heap.size := Nat.le_trans hn hB0.out.size
  have hwk : wordF ⟨kd, tx, st, nm⟩ = if kd = 2 then quoteF tx.data.toList else if kd = 3 then textS st else if kd = 4 then (Lib.itoa nm).map UInt8.toNat else tx.data.toList.map UInt8.toNat := rfl
  have HF := Lib.hid hwk
  clear hwk hown hG
  by_cases c1 : kd = 2
  · have HX : Hid (wordF ⟨kd, tx, st, nm⟩ = quoteF tx.data.toList) := Lib.hid (by rw [HF.out, if_pos c1])
    have HC := Lib.hid (appendQuoted_any v l tx ht n₀ _ hO0.out hsz (by omega))
    rw [← HX.out] at HC
    generalize wordF ⟨kd, tx, st, nm⟩ = TX at HC ⊢
    clear HF HX
    subst c1
    unfold wordC at *
    unfold wordV wordC
    go_enter Tryz.func27, Tryz.ntmps27
    go_wp2_with (go_at_call 32; refine HC.out.mono ?_; rintro e w3 ⟨v3, rfl, hown3, hk3, hB3⟩)
    go_ret
    exact ⟨v3, rfl, hown3, hK0.out.trans hk3, hB0.out.trans hB3⟩
  · by_cases c2 : kd = 3
    · have HX : Hid (wordF ⟨kd, tx, st, nm⟩ = textS st) := Lib.hid (by rw [HF.out, if_neg c1, if_pos c2])
      have HC := Lib.hid (text_any st _ hG0.out.base)
      have hlen := textS_len st
      have HS := Lib.hid (textS_small st)
      clear HF c1
      generalize wordF ⟨kd, tx, st, nm⟩ = TX at HX ⊢
      generalize textS st = M at HC hlen HS HX
      subst c2
      unfold wordC at *
      unfold wordV wordC
      unfold vset at HC
      go_enter Tryz.func27, Tryz.ntmps27
      go_wp2_with (first
        | (go_at_call 49; refine HC.out.mono ?_; rintro e w3 ⟨rfl, hB3⟩; have hO3 := own_below hO0.out hB3 (Nat.le_refl _); have hsz3 := Nat.le_trans hsz hB3.size)
        | (at_builtin; refine Lib.wpList_append_own_string _ rfl _ _ 58 9 rfl n₀ 5 i0 Tryz.underlying58 Tryz.underlying9 hi hz0 hz1 hz2 _ _ _ rfl hO3 (bytesStr M) rfl (by rw [bytesStr_size]; unfold maxLen; omega) (by rw [bytesStr_size]; omega) hsz3 ?_; intro v' w1 hown1 hgrow _))
      have hf4 := own_fin hO3 (hK0.out.below hB3) (hB0.out.trans (hB3.mono hsz)) hn hgrow
      go_ret
      refine ⟨v', rfl, ?_, hf4.1, hf4.2⟩
      rw [bytesStr_size, cells_bytesStr M HS.out] at hown1
      rw [HX.out, List.length_append, List.map_append]
      exact hown1
    · by_cases c3 : kd = 4
      · have HX : Hid (wordF ⟨kd, tx, st, nm⟩ = (Lib.itoa nm).map UInt8.toNat) := Lib.hid (by rw [HF.out, if_neg c1, if_neg c2, if_pos c3])
        have HC := Lib.hid (Tryz.strconv_AppendInt_10 n₀ l.length nm hm0 hm1 v (l.map byteV) _ hO0.out hsz (by omega) (fun w' hB => (hG0.out.above h4 hB).pow))
        clear HF c1 c2
        generalize wordF ⟨kd, tx, st, nm⟩ = TX at HX ⊢
        rw [byteCells_nat] at HC
        have hM : (Lib.itoa nm).length = ((Lib.itoa nm).map UInt8.toNat).length := by rw [List.length_map]
        rw [hM] at HC
        generalize (Lib.itoa nm).map UInt8.toNat = M at HC HX
        clear hM
        subst c3
        unfold wordC at *
        unfold wordV wordC
        go_enter Tryz.func27, Tryz.ntmps27
        go_wp2_with (go_at_call 50; refine HC.out.mono ?_; rintro e w3 ⟨v3, rfl, hown3, hB3, hk3⟩)
        go_ret
        refine ⟨v3, rfl, ?_, hK0.out.trans hk3, hB0.out.trans hB3⟩
        rw [HX.out, List.length_append, List.map_append]
        exact hown3
      · have HX : Hid (wordF ⟨kd, tx, st, nm⟩ = tx.data.toList.map UInt8.toNat) := Lib.hid (by rw [HF.out, if_neg c1, if_neg c2, if_neg c3])
        clear HF
        generalize wordF ⟨kd, tx, st, nm⟩ = TX at HX ⊢
        unfold wordC at *
        unfold wordV wordC
        go_enter Tryz.func27, Tryz.ntmps27
        go_wp2_with (at_builtin; refine Lib.wpList_append_own_string _ rfl _ _ 58 9 rfl n₀ 5 i0 Tryz.underlying58 Tryz.underlying9 hi hz0 hz1 hz2 _ _ _ rfl hO0.out tx rfl (by unfold maxLen; omega) (by omega) hsz ?_; intro v' w1 hown1 hgrow _)
        have hf4 := own_fin hO0.out hK0.out hB0.out hn hgrow
        go_ret
        refine ⟨v', rfl, ?_, hf4.1, hf4.2⟩
        rw [strCells_nat] at hown1
        rw [HX.out, List.length_append, List.map_append, List.length_map, ← Lib.size_eq]
        exact hown1
end Go.Proofs.YtdodkbpagbblmaaGreatDoor
end
section
namespace Go.Proofs.YtdodkbpagbblmaaGreatDoor
open Go Go.RowKit

theorem part27 (a b c d : Int) (w : World) : (part 31 #[.int .u64 a, .int .u64 b, .int .u64 c, .int .u64 d] 0).run Tryz.prog w = .ok (.int .u64 a) w := by kernel_rfl
theorem part27_1 (a b c d : Int) (w : World) : (part 31 #[.int .u64 a, .int .u64 b, .int .u64 c, .int .u64 d] 1).run Tryz.prog w = .ok (.int .u64 b) w := by kernel_rfl
theorem part27_2 (a b c d : Int) (w : World) : (part 31 #[.int .u64 a, .int .u64 b, .int .u64 c, .int .u64 d] 2).run Tryz.prog w = .ok (.int .u64 c) w := by kernel_rfl
theorem part27_3 (a b c d : Int) (w : World) : (part 31 #[.int .u64 a, .int .u64 b, .int .u64 c, .int .u64 d] 3).run Tryz.prog w = .ok (.int .u64 d) w := by kernel_rfl
theorem size27 (w : World) : (sizeOf 31).run Tryz.prog w = .ok 1 w := by kernel_rfl

theorem eq_words (n : Nat) (a b c d a' b' c' d' : Int) (w : World) : (Op.equalIn (n + 2) 33 (.agg #[.int .u64 a, .int .u64 b, .int .u64 c, .int .u64 d]) (.agg #[.int .u64 a', .int .u64 b', .int .u64 c', .int .u64 d'])).run Tryz.prog w =
    .ok (a == a' && (b == b' && (c == c' && d == d'))) w := by
  have hu : Tryz.prog.underlying 33 = some (.array 4 31) := by kernel_rfl
  have h27 : Tryz.prog.underlying 31 = some (.int .u64) := by kernel_rfl
  rw [Op.equalIn]
  simp only [Sem.run_bind, run_underlying hu, Result.andThen_ok, size27]
  simp only [Std.Legacy.Range.forIn_eq_forIn_range', Std.Legacy.Range.size]
  rw [show List.range' 0 ((4 - 0 + 1 - 1) / 1) = [0, 1, 2, 3] from rfl]
  simp only [List.forIn_cons, List.forIn_nil, Sem.run_bind, Nat.reduceMul, part27, part27_1, part27_2, part27_3, Result.andThen_ok, run_equalIn_int w n 31 .u64 .u64 _ _ h27]
  by_cases h0 : a = a'
  · by_cases h1 : b = b'
    · by_cases h2 : c = c'
      · by_cases h3 : d = d' <;> simp [h0, h1, h2, h3, part27_1, part27_2, part27_3, run_equalIn_int _ n 31 .u64 .u64 _ _ h27]
      · simp [h0, h1, h2, part27_1, part27_2, part27_3, run_equalIn_int _ n 31 .u64 .u64 _ _ h27]
    · simp [h0, h1, part27_1, part27_2, part27_3, run_equalIn_int _ n 31 .u64 .u64 _ _ h27]
  · simp [h0, part27_1, part27_2, part27_3, run_equalIn_int _ n 31 .u64 .u64 _ _ h27]

theorem vset_beq (s t : BS) : (wdI s 0 == wdI t 0 && (wdI s 1 == wdI t 1 && (wdI s 2 == wdI t 2 && wdI s 3 == wdI t 3))) = (s == t) := by
  by_cases h : s = t
  · subst h; simp
  · have : (s == t) = false := by simpa using h
    rw [this]
    cases hx : (wdI s 0 == wdI t 0 && (wdI s 1 == wdI t 1 && (wdI s 2 == wdI t 2 && wdI s 3 == wdI t 3)))
    · rfl
    · simp only [Bool.and_eq_true, beq_iff_eq] at hx
      exact absurd (wdI_inj hx.1 hx.2.1 hx.2.2.1 hx.2.2.2) h

theorem eq_sets (s t : BS) (w : World) : (Op.equalIn 10000 33 (.agg #[.int .u64 (wdI s 0), .int .u64 (wdI s 1), .int .u64 (wdI s 2), .int .u64 (wdI s 3)]) (.agg #[.int .u64 (wdI t 0), .int .u64 (wdI t 1), .int .u64 (wdI t 2), .int .u64 (wdI t 3)])).run Tryz.prog w = .ok (s == t) w := by
  rw [← vset_beq]; exact eq_words 9998 _ _ _ _ _ _ _ _ w

end Go.Proofs.YtdodkbpagbblmaaGreatDoor
end
section
namespace Go.Proofs.YtdodkbpagbblmaaGreatDoor
open Go Go.RowKit

theorem fields38 : (Tryz.prog.fieldsOf 35).toList.map (fun f => (f.name, f.type, f.offset)) = [("Kind", 30, 0), ("At", 3, 1), ("Text", 9, 2), ("Set", 33, 3), ("Number", 3, 7)] := by kernel_rfl

theorem eqf_cons (d : Nat) (xs ys : Array Value) (f : Field) (fs : List Field) (s : String) (t o : Nat) (h : (f.name, f.type, f.offset) = (s, t, o)) (hs : s ≠ "_") (a b : Value) (r : Bool) (w : World)
    (ha : (part t xs o).run Tryz.prog w = .ok a w) (hb : (part t ys o).run Tryz.prog w = .ok b w) (hr : (Op.equalIn d t a b).run Tryz.prog w = .ok r w) :
    (Op.eqFields d xs ys (f :: fs)).run Tryz.prog w = if r then (Op.eqFields d xs ys fs).run Tryz.prog w else .ok false w := by
  obtain ⟨rfl, rfl, rfl⟩ : f.name = s ∧ f.type = t ∧ f.offset = o := by simpa using h
  simp only [Op.eqFields, if_pos hs, Sem.run_bind, ha, hb, hr, Result.andThen_ok]
  cases r <;> simp

theorem eq_wds (n : Nat) (x y : Wd) (a b : Int) (w : World) : (Op.equalIn (n + 4) 35 (wordV x a) (wordV y b)).run Tryz.prog w =
    .ok (x.kind == y.kind && (a == b && (x.txt.toList == y.txt.toList && (x.set == y.set && x.num == y.num)))) w := by
  have h1 : Tryz.prog.underlying 35 = some (.struct (Tryz.prog.fieldsOf 35)) := by kernel_rfl
  have h2 : Tryz.prog.stoodInHeld 35 = false := by kernel_rfl
  have u33 : Tryz.prog.underlying 30 = some (.int .i64) := by kernel_rfl
  have u3 : Tryz.prog.underlying 3 = some (.int .i64) := by kernel_rfl
  have u9 : Tryz.prog.underlying 9 = some .string := by kernel_rfl
  have hf := fields38
  unfold wordV
  rw [run_equalIn_struct w (n + 3) 35 _ _ h1 h2]
  revert hf
  generalize (Tryz.prog.fieldsOf 35).toList = fs
  intro hf
  obtain ⟨f0, fs0, rfl⟩ : ∃ f l, fs = f :: l := by cases fs with | nil => simp at hf | cons f l => exact ⟨f, l, rfl⟩
  rw [List.map_cons, List.cons.injEq] at hf
  obtain ⟨g0, hf⟩ := hf
  obtain ⟨f1, fs1, rfl⟩ : ∃ f l, fs0 = f :: l := by cases fs0 with | nil => simp at hf | cons f l => exact ⟨f, l, rfl⟩
  rw [List.map_cons, List.cons.injEq] at hf
  obtain ⟨g1, hf⟩ := hf
  obtain ⟨f2, fs2, rfl⟩ : ∃ f l, fs1 = f :: l := by cases fs1 with | nil => simp at hf | cons f l => exact ⟨f, l, rfl⟩
  rw [List.map_cons, List.cons.injEq] at hf
  obtain ⟨g2, hf⟩ := hf
  obtain ⟨f3, fs3, rfl⟩ : ∃ f l, fs2 = f :: l := by cases fs2 with | nil => simp at hf | cons f l => exact ⟨f, l, rfl⟩
  rw [List.map_cons, List.cons.injEq] at hf
  obtain ⟨g3, hf⟩ := hf
  obtain ⟨f4, fs4, rfl⟩ : ∃ f l, fs3 = f :: l := by cases fs3 with | nil => simp at hf | cons f l => exact ⟨f, l, rfl⟩
  rw [List.map_cons, List.cons.injEq] at hf
  obtain ⟨g4, hf⟩ := hf
  obtain rfl : fs4 = [] := by simpa using hf
  obtain ⟨xk, xt, xs, xn⟩ := x
  obtain ⟨yk, yt, ys, yn⟩ := y
  unfold wordC
  dsimp only
  have e3 : (Op.equalIn (n + 3) 33 (.agg #[.int .u64 (wdI xs 0), .int .u64 (wdI xs 1), .int .u64 (wdI xs 2), .int .u64 (wdI xs 3)]) (.agg #[.int .u64 (wdI ys 0), .int .u64 (wdI ys 1), .int .u64 (wdI ys 2), .int .u64 (wdI ys 3)])).run Tryz.prog w = .ok (xs == ys) w := by
    rw [← vset_beq]; exact eq_words (n + 1) _ _ _ _ _ _ _ _ w
  rw [eqf_cons (n + 3) _ _ f0 _ _ _ _ g0 (by decide) (.int .i64 xk) (.int .i64 yk) _ w (by kernel_rfl) (by kernel_rfl) (run_equalIn_int w (n + 2) 30 .i64 .i64 xk yk u33),
    eqf_cons (n + 3) _ _ f1 _ _ _ _ g1 (by decide) (.int .i64 a) (.int .i64 b) _ w (by kernel_rfl) (by kernel_rfl) (run_equalIn_int w (n + 2) 3 .i64 .i64 a b u3),
    eqf_cons (n + 3) _ _ f2 _ _ _ _ g2 (by decide) (.string xt) (.string yt) _ w (by kernel_rfl) (by kernel_rfl) (run_equalIn_string w (n + 2) 9 xt yt u9),
    eqf_cons (n + 3) _ _ f3 _ _ _ _ g3 (by decide) _ _ _ w (by kernel_rfl) (by kernel_rfl) e3,
    eqf_cons (n + 3) _ _ f4 _ _ _ _ g4 (by decide) (.int .i64 xn) (.int .i64 yn) _ w (by kernel_rfl) (by kernel_rfl) (run_equalIn_int w (n + 2) 3 .i64 .i64 xn yn u3)]
  have e4 : (Op.eqFields (n + 3) (#[.int .i64 xk, .int .i64 a, .string xt, .int .u64 (wdI xs 0), .int .u64 (wdI xs 1), .int .u64 (wdI xs 2), .int .u64 (wdI xs 3), .int .i64 xn] : Array Value) (#[.int .i64 yk, .int .i64 b, .string yt, .int .u64 (wdI ys 0), .int .u64 (wdI ys 1), .int .u64 (wdI ys 2), .int .u64 (wdI ys 3), .int .i64 yn] : Array Value) []).run Tryz.prog w = .ok true w := by
    simp [Op.eqFields]
  rw [e4]
  cases xk == yk <;> cases a == b <;> cases xt.toList == yt.toList <;> cases xs == ys <;> cases xn == yn <;> rfl
end Go.Proofs.YtdodkbpagbblmaaGreatDoor
end
section
namespace Go.Proofs.YtdodkbpagbblmaaGreatDoor
open Go Go.RowKit

/-- A word with its place, as it lies in memory. -/
structure WordAt (w : World) (b o : Nat) (x : Wd × Int) : Prop where
  c0 : w.cell? ⟨b, o, none⟩ = some (.int .i64 x.1.kind)
  c1 : w.cell? ⟨b, o + 1, none⟩ = some (.int .i64 x.2)
  c2 : w.cell? ⟨b, o + 2, none⟩ = some (.string x.1.txt)
  c3 : w.cell? ⟨b, o + 3, none⟩ = some (.int .u64 (wdI x.1.set 0))
  c4 : w.cell? ⟨b, o + 4, none⟩ = some (.int .u64 (wdI x.1.set 1))
  c5 : w.cell? ⟨b, o + 5, none⟩ = some (.int .u64 (wdI x.1.set 2))
  c6 : w.cell? ⟨b, o + 6, none⟩ = some (.int .u64 (wdI x.1.set 3))
  c7 : w.cell? ⟨b, o + 7, none⟩ = some (.int .i64 x.1.num)
/-- Words as they lie behind a slice. -/
def RowW (w : World) (a : Option Addr) (l : List (Wd × Int)) : Prop :=
  ∀ (i : Nat) (x : Wd × Int), l[i]? = some x → ∃ b off, a = some ⟨b, off, none⟩ ∧ WordAt w b (off + i * 8) x
theorem WordAt.to {w W : World} {b o : Nat} {x : Wd × Int} (h : WordAt w b o x) (hb : W.heap[b]? = w.heap[b]?) : WordAt W b o x := by
  have k : ∀ o, W.cell? ⟨b, o, none⟩ = w.cell? ⟨b, o, none⟩ := fun o => World.cell?_of_block (w := w) hb
  exact ⟨(k _).trans h.c0, (k _).trans h.c1, (k _).trans h.c2, (k _).trans h.c3, (k _).trans h.c4, (k _).trans h.c5, (k _).trans h.c6, (k _).trans h.c7⟩
theorem WordAt.lt {w : World} {b o : Nat} {x : Wd × Int} (h : WordAt w b o x) : b < w.heap.size := lt_of_cell h.c0
theorem WordAt.below {w W : World} {n b o : Nat} {x : Wd × Int} (h : WordAt w b o x) (hB : Below n w W) (hn : b < n) : WordAt W b o x := h.to (hB.block b hn)
theorem RowW.to {w W : World} {a : Option Addr} {l : List (Wd × Int)} (h : RowW w a l) (hb : ∀ g o, a = some ⟨g, o, none⟩ → W.heap[g]? = w.heap[g]?) : RowW W a l := fun i x hx => by
  obtain ⟨b, off, rfl, k⟩ := h i x hx
  exact ⟨b, off, rfl, k.to (hb _ _ rfl)⟩
theorem RowW.below {w W : World} {a : Option Addr} {l : List (Wd × Int)} (h : RowW w a l) (hB : Below w.heap.size w W) : RowW W a l := fun i x hx => by
  obtain ⟨b, off, rfl, k⟩ := h i x hx
  exact ⟨b, off, rfl, k.below hB k.lt⟩

/-- Are two words the same, wherever they stand? -/
def sameW (x y : Wd) : Bool := x.kind == y.kind && (x.txt.toList == y.txt.toList && (x.set == y.set && x.num == y.num))

set_option maxRecDepth 100000 in
set_option maxHeartbeats 4000000 in
theorem same1_any (x y : Wd) (a b : Int) (w : World) : Calls Tryz.prog 31 #[wordV x a, wordV y b] w fun e w' => e = .returned (.bool (sameW x y)) ∧ Below w.heap.size w w' := by
  have HE := fun w' => Lib.hid (eq_wds 9996 x y b b w')
  obtain ⟨r, hr⟩ : ∃ r, r = sameW x y := ⟨_, rfl⟩
  have hrr : (x.kind == y.kind && (b == b && (x.txt.toList == y.txt.toList && (x.set == y.set && x.num == y.num)))) = r := by rw [hr]; unfold sameW; simp
  simp only [hrr] at HE
  rw [← hr]
  clear hr hrr
  have HE' := fun w' => (HE w').out
  unfold wordV wordC at *
  go_enter Tryz.func31, Tryz.ntmps31
  go_wp2
  go_ret
  exact ⟨rfl, ((Below.refl _ w).alloc (Nat.le_refl _) _).alloc (by simp) _⟩
end Go.Proofs.YtdodkbpagbblmaaGreatDoor
end
section
namespace Go.Proofs.YtdodkbpagbblmaaGreatDoor
open Go Go.RowKit

/-- Are words the same, one by one? -/
def sameL : List (Wd × Int) → List (Wd × Int) → Bool
  | [], [] => true
  | x :: xs, y :: ys => sameW x.1 y.1 && sameL xs ys
  | _, _ => false
theorem sameL_len : ∀ (l k : List (Wd × Int)), l.length ≠ k.length → sameL l k = false := by
  intro l
  induction l with
  | nil => intro k h; cases k with | nil => simp at h | cons y k => rfl
  | cons x l ih =>
    intro k h
    cases k with
    | nil => rfl
    | cons y k => unfold sameL; rw [ih k (by simp at h; omega)]; simp
theorem sameL_at (l k : List (Wd × Int)) (i : Nat) (x y : Wd × Int) (hx : l[i]? = some x) (hy : k[i]? = some y) : sameL (l.drop i) (k.drop i) = (sameW x.1 y.1 && sameL (l.drop (i + 1)) (k.drop (i + 1))) := by
  obtain ⟨h1, e1⟩ := List.getElem?_eq_some_iff.1 hx
  obtain ⟨h2, e2⟩ := List.getElem?_eq_some_iff.1 hy
  rw [List.drop_eq_getElem_cons h1, List.drop_eq_getElem_cons h2, e1, e2]
  rfl

set_option maxRecDepth 100000 in
set_option maxHeartbeats 4000000 in
theorem equalFunc_any (a b : Option Addr) (ca cb : Nat) (l k : List (Wd × Int)) (w : World) (hl : RowW w a l) (hk : RowW w b k) (hll : l.length ≤ 1048576) (hkl : k.length ≤ 1048576) :
    Calls Tryz.prog 30 #[.slice a l.length ca, .slice b k.length cb, .func (.func 31) #[] #[]] w fun e w' => e = .returned (.bool (sameL l k)) ∧ Below w.heap.size w w' := by
  have HD := Lib.hid hl
  have HK := Lib.hid hk
  clear hl hk
  by_cases hne : l.length = k.length
  · obtain ⟨n, hn⟩ : ∃ n, n = l.length := ⟨_, rfl⟩
    rw [← hne, ← hn]
    have HN : Hid (l.length = n ∧ k.length = n) := ⟨hn.symm, by rw [← hne, hn]⟩
    have hn1 : n ≤ 1048576 := by rw [hn]; exact hll
    clear hne hn hll hkl
    go_enter Tryz.func30, Tryz.ntmps30
    go_wp2
    go_loopw [17] (fun i wr => ∃ (m : Nat), i = .int .i64 m ∧ m ≤ n ∧ Hid (sameL l k = sameL (l.drop m) (k.drop m)) ∧ Hid (Below w.heap.size w wr))
      (fun i _ => n - (intOf i).toNat)
    case atStart => exact ⟨0, rfl, Nat.zero_le _, Lib.hid rfl, Below.refl _ _⟩
    case round =>
      obtain ⟨m, rfl, hm, hS, hB⟩ := hrel
      by_cases hlt : m < n
      · have HX : Hid (l[m]? = some (l[m]'(by rw [HN.out.1]; exact hlt))) := Lib.hid (List.getElem?_eq_getElem _)
        have HY : Hid (k[m]? = some (k[m]'(by rw [HN.out.2]; exact hlt))) := Lib.hid (List.getElem?_eq_getElem _)
        obtain ⟨x, hx⟩ : ∃ x, l[m]'(by rw [HN.out.1]; exact hlt) = x := ⟨_, rfl⟩
        obtain ⟨y, hy⟩ : ∃ y, k[m]'(by rw [HN.out.2]; exact hlt) = y := ⟨_, rfl⟩
        rw [hx] at HX
        rw [hy] at HY
        clear hx hy
        have HS := Lib.hid (sameL_at l k m x y HX.out HY.out)
        obtain ⟨x, ax⟩ := x
        obtain ⟨y, ay⟩ := y
        obtain ⟨g, off, rfl, hW⟩ := HD.out m _ HX.out
        obtain ⟨h, ofg, rfl, hV⟩ := HK.out m _ HY.out
        have hW := hW.below hB.out hW.lt
        have hV := hV.below hB.out hV.lt
        have bg := hW.lt
        have bh := hV.lt
        obtain ⟨c0, c1, c2, c3, c4, c5, c6, c7⟩ := hW
        obtain ⟨d0, d1, d2, d3, d4, d5, d6, d7⟩ := hV
        dsimp only at c0 c1 c2 c3 c4 c5 c6 c7 d0 d1 d2 d3 d4 d5 d6 d7 HS
        have hszr := hB.out.size
        have HC := fun w' => Lib.hid (same1_any x y ax ay w')
        obtain ⟨r, hr⟩ : ∃ r, r = sameW x y := ⟨_, rfl⟩
        rw [← hr] at HC HS
        unfold wordV wordC at HC
        clear hr
        have hB2 : Below w.heap.size w ((wr.alloc (.cells (wordC x ax) 35)).alloc (.cells (wordC y ay) 35)) := (hB.out.alloc hszr _).alloc (by simp; omega) _
        have HB2 := Lib.hid hB2
        clear hB2
        unfold wordC at HB2
        have n1 : (m : Int) < (n : Int) := by omega
        cases r with
        | true =>
          have HS2 : Hid (sameL l k = sameL (l.drop (m + 1)) (k.drop (m + 1))) := Lib.hid (by rw [hS.out, HS.out, Bool.true_and])
          clear hS HS HX HY
          go_wp2_with (go_at_call 31; refine (HC _).out.mono ?_; rintro e w3 ⟨rfl, hB3⟩)
          have HB3 := Lib.hid (HB2.out.trans (hB3.mono HB2.out.size))
          clear hB3
          go_wp2
          go_roundw
          case rel => exact ⟨m + 1, by go_num, by omega, HS2, HB3⟩
          case measure => simp [intOf]; omega
        | false =>
          have HS2 : Hid (sameL l k = false) := Lib.hid (by rw [hS.out, HS.out, Bool.false_and])
          clear hS HS HX HY
          go_wp2_with (go_at_call 31; refine (HC _).out.mono ?_; rintro e w3 ⟨rfl, hB3⟩)
          have HB3 := Lib.hid (HB2.out.trans (hB3.mono HB2.out.size))
          clear hB3
          go_wp2
          go_ret
          exact ⟨by rw [HS2.out]; rfl, HB3.out⟩
      · obtain rfl : m = n := by omega
        have HS2 : Hid (sameL l k = true) := by
          refine Lib.hid ?_
          rw [hS.out, List.drop_eq_nil_of_le (by rw [HN.out.1]; exact Nat.le_refl _), List.drop_eq_nil_of_le (by rw [HN.out.2]; exact Nat.le_refl _)]
          rfl
        clear hS
        go_wp2
        go_ret
        exact ⟨by rw [HS2.out]; rfl, hB.out⟩
  · have HS := Lib.hid (sameL_len l k hne)
    have n1 : ¬ (l.length : Int) = (k.length : Int) := by omega
    go_enter Tryz.func30, Tryz.ntmps30
    go_wp2
    go_ret
    exact ⟨by rw [HS.out]; rfl, Below.refl _ _⟩

set_option maxRecDepth 100000 in
theorem same_any (a b : Option Addr) (ca cb : Nat) (l k : List (Wd × Int)) (w : World) (hl : RowW w a l) (hk : RowW w b k) (hll : l.length ≤ 1048576) (hkl : k.length ≤ 1048576) :
    Calls Tryz.prog 15 #[.slice a l.length ca, .slice b k.length cb] w fun e w' => e = .returned (.bool (sameL l k)) ∧ Below w.heap.size w w' := by
  have HC := Lib.hid (equalFunc_any a b ca cb l k w hl hk hll hkl)
  clear hl hk
  go_enter Tryz.func15, Tryz.ntmps15
  go_wp2_with (go_at_call 30; refine HC.out.mono ?_; rintro e w3 ⟨rfl, hB3⟩)
  go_ret
  exact ⟨rfl, hB3⟩
end Go.Proofs.YtdodkbpagbblmaaGreatDoor
end
section
namespace Go.Proofs.YtdodkbpagbblmaaGreatDoor
open Go Go.RowKit

/-- What a word has, and nothing else: see Q20. -/
def tailW (l : List (Wd × Int)) : List Nat := l.flatMap fun x => 32 :: wordF x.1
/-- Words' texts, one blank between each two. -/
def joinW : List (Wd × Int) → List Nat
  | [] => []
  | x :: l => wordF x.1 ++ tailW l
theorem joinW_snoc (l : List (Wd × Int)) (x : Wd × Int) (h : l ≠ []) : joinW (l ++ [x]) = joinW l ++ [32] ++ wordF x.1 := by
  cases l with
  | nil => exact absurd rfl h
  | cons y l => simp [joinW, tailW]
theorem joinW_pre (l k : List (Wd × Int)) : (joinW l).length ≤ (joinW (l ++ k)).length := by
  cases l with
  | nil => simp [joinW]
  | cons y l => simp [joinW, tailW]
theorem joinW_take (l : List (Wd × Int)) (k : Nat) : (joinW (l.take k)).length ≤ (joinW l).length := by
  have h := joinW_pre (l.take k) (l.drop k)
  rw [List.take_append_drop] at h
  exact h
theorem own_slice {w : World} {b e s n : Nat} {v : Value} {xs : List Value} (h : w.ownsRow b e s v n xs) : ∃ a cap, v = .slice a n cap := by
  rcases h.2 with ⟨rfl, h0⟩ | ⟨g, cap, cur, rfl, _⟩
  · exact ⟨none, 0, by rw [h0]⟩
  · exact ⟨_, cap, rfl⟩
/-- The text of bytes that a slice owns. -/
theorem conv_owns {n₀ : Nat} {w : World} {a : Option Addr} {c : Nat} {l : List Nat} (h : w.ownsRow n₀ 5 1 (.slice a l.length c) l.length (l.map byteV)) : (convert 58 9 (.slice a l.length c)).run Tryz.prog w = .ok (.string (bytesStr l)) w := by
  rcases h.2 with ⟨h1, h0⟩ | ⟨g, cap, cur, h1, _⟩
  · have : l = [] := List.length_eq_zero_iff.1 h0
    subst this
    cases h1
    exact conv_nil w
  · cases h1
    exact conv_own g c w l l.length rfl h
end Go.Proofs.YtdodkbpagbblmaaGreatDoor
end
section
namespace Go.Proofs.YtdodkbpagbblmaaGreatDoor
open Go Go.RowKit

theorem conv_two (b c : Nat) (g : Nat) (w : World) (h0 : w.cell? ⟨g, 0, none⟩ = some (.int .u8 b)) (h1 : w.cell? ⟨g, 1, none⟩ = some (.int .u8 c)) : (convert 58 9 (.slice (some ⟨g, 0, none⟩) 2 2)).run Tryz.prog w = .ok (.string (bytesStr [b, c])) w := by
  refine run_convert_bytes_arg w 58 5 Tryz.underlying58 Tryz.underlying5 g 0 2 2 [(b : Int), (c : Int)] rfl ?_ 9 Tryz.underlying9
  intro i hi
  have : i = 0 ∨ i = 1 := by omega
  rcases this with rfl | rfl
  · simpa using h0
  · simpa using h1
theorem bytesStr_append (l m : List Nat) : bytesStr l ++ bytesStr m = bytesStr (l ++ m) := by
  unfold bytesStr
  apply ByteArray.ext
  simp [strOfNums]
theorem ba_assoc (a b c : ByteArray) : (a ++ b) ++ c = a ++ (b ++ c) := by
  apply ByteArray.ext; simp [Array.append_assoc]
theorem ext_one (s : ByteArray) (m : Nat) (h : m < s.size) (b : Nat) (hb : b = (s[m]).toNat) : s.extract m (m + 1) = bytesStr [b] := by
  apply WideShapes.bytes_inj
  rw [bytesStr_list, ByteArray.data_extract, Array.toList_extract, List.extract_eq_take_drop]
  have h1 := drop_at s m h
  rw [h1]
  have e : m + 1 - m = 1 := by omega
  rw [e]
  simp [hb]

set_option maxRecDepth 100000 in
set_option maxHeartbeats 4000000 in
theorem quote_any (s : ByteArray) (hs : s.size ≤ 1048576) (w : World) : Calls Tryz.prog 17 #[.string s] w fun e w' => e = .returned (.string (bytesStr (quoteF s.data.toList))) ∧ Below w.heap.size w w' := by
  have HQ := Lib.hid (appendQuoted_any (.slice none 0 0) [] s hs w.heap.size w (World.ownsRow_nil _ _ _ _) (Nat.le_refl _) (by simp))
  obtain ⟨L, hL⟩ : ∃ L, L = quoteF s.data.toList := ⟨_, rfl⟩
  rw [List.nil_append, ← hL] at HQ
  rw [← hL]
  clear hL
  go_enter Tryz.func17, Tryz.ntmps17
  go_wp2_with fail
  refine HQ.out.mono ?_
  rintro e w1 ⟨v, rfl, hown, hk, hB⟩
  obtain ⟨a, c, rfl⟩ := own_slice hown
  have hcv := conv_owns hown
  have HB := Lib.hid hB
  clear hown hk hB HQ
  go_wp2
  go_ret
  exact ⟨rfl, HB.out⟩

set_option maxRecDepth 100000 in
set_option maxHeartbeats 8000000 in
theorem rquote_any (s : ByteArray) (hs : s.size ≤ 1048576) (w : World) : Calls Tryz.prog 18 #[.string s] w fun e w' => e = .returned (.string (bytesStr (quoteF s.data.toList))) ∧ Below w.heap.size w w' := by
  go_enter Tryz.func18, Tryz.ntmps18
  go_wp2
  go_loopw [4, 5] (fun q i wr => ∃ (m : Nat) (t : ByteArray), q = .string t ∧ i = .int .i64 m ∧ m ≤ s.size ∧ t.size ≤ 1 + 4 * m ∧ Hid (t = bytesStr ([34] ++ quoteL (s.data.toList.take m))) ∧ Hid (Below w.heap.size w wr))
    (fun _ i _ => s.size - (intOf i).toNat)
  case atStart => exact ⟨0, ⟨#[34]⟩, rfl, rfl, Nat.zero_le _, Nat.le_refl _, Lib.hid rfl, Below.refl _ _⟩
  case round =>
    obtain ⟨m, t, rfl, rfl, hm, hts, hT, hB⟩ := hrel
    have hszr := hB.out.size
    by_cases hlt : m < s.size
    · have n1 : (m : Int) < (s.size : Int) := by omega
      obtain ⟨b, hb⟩ : ∃ b, b = (s[m]'hlt).toNat := ⟨_, rfl⟩
      have hb256 : b < 256 := by rw [hb]; exact (s[m]'hlt).toNat_lt
      have hi : ∀ h, (s[m]'h).toNat = b := fun h => hb.symm
      have hx1 := ext_one s m hlt b hb
      have HN : Hid (∀ X, X = quoteB b → t ++ bytesStr X = bytesStr ([34] ++ quoteL (s.data.toList.take (m + 1)))) := by
        refine Lib.hid fun X hX => ?_
        rw [take_at s m hlt, quoteL_snoc, ← hb, hT.out, hX, bytesStr_append, List.append_assoc]
      have hql := quoteB_len b
      clear hb hT
      by_cases c10 : b = 10
      · have d1 : ((b : Int) == 10) = true := by rw [beq_iff_eq]; omega
        have HE := Lib.hid (HN.out [92, 110] (by unfold quoteB; simp [c10]))
        have HE2 : Hid (t ++ ⟨#[92, 110]⟩ = bytesStr ([34] ++ quoteL (s.data.toList.take (m + 1)))) := Lib.hid (by rw [← HE.out]; first | rfl | (rw [ba_assoc]; rfl) | (rw [ba_assoc, hx1]; exact congrArg _ (bytesStr_append [92] [b])) | rw [hx1])
        have HZ : Hid ((t ++ ⟨#[92, 110]⟩).size ≤ 1 + 4 * (m + 1)) := Lib.hid (by rw [HE2.out, ← HE.out, ByteArray.size_append, bytesStr_size]; simp; omega)
        clear HN HE hx1 hql
        go_wp2
        go_roundw
        case rel => exact ⟨m + 1, _, rfl, by go_num, by omega, HZ.out, HE2, hB⟩
        case measure => simp [intOf]; omega
      by_cases c9 : b = 9
      · have d1 : ((b : Int) == 10) = false := by rw [beq_eq_false_iff_ne]; omega
        have d2 : ((b : Int) == 9) = true := by rw [beq_iff_eq]; omega
        have HE := Lib.hid (HN.out [92, 116] (by unfold quoteB; simp [c9]))
        have HE2 : Hid (t ++ ⟨#[92, 116]⟩ = bytesStr ([34] ++ quoteL (s.data.toList.take (m + 1)))) := Lib.hid (by rw [← HE.out]; first | rfl | (rw [ba_assoc]; rfl) | (rw [ba_assoc, hx1]; exact congrArg _ (bytesStr_append [92] [b])) | rw [hx1])
        have HZ : Hid ((t ++ ⟨#[92, 116]⟩).size ≤ 1 + 4 * (m + 1)) := Lib.hid (by rw [HE2.out, ← HE.out, ByteArray.size_append, bytesStr_size]; simp; omega)
        clear HN HE hx1 hql
        go_wp2
        go_roundw
        case rel => exact ⟨m + 1, _, rfl, by go_num, by omega, HZ.out, HE2, hB⟩
        case measure => simp [intOf]; omega
      by_cases c13 : b = 13
      · have d1 : ((b : Int) == 10) = false := by rw [beq_eq_false_iff_ne]; omega
        have d2 : ((b : Int) == 9) = false := by rw [beq_eq_false_iff_ne]; omega
        have d3 : ((b : Int) == 13) = true := by rw [beq_iff_eq]; omega
        have HE := Lib.hid (HN.out [92, 114] (by unfold quoteB; simp [c13]))
        have HE2 : Hid (t ++ ⟨#[92, 114]⟩ = bytesStr ([34] ++ quoteL (s.data.toList.take (m + 1)))) := Lib.hid (by rw [← HE.out]; first | rfl | (rw [ba_assoc]; rfl) | (rw [ba_assoc, hx1]; exact congrArg _ (bytesStr_append [92] [b])) | rw [hx1])
        have HZ : Hid ((t ++ ⟨#[92, 114]⟩).size ≤ 1 + 4 * (m + 1)) := Lib.hid (by rw [HE2.out, ← HE.out, ByteArray.size_append, bytesStr_size]; simp; omega)
        clear HN HE hx1 hql
        go_wp2
        go_roundw
        case rel => exact ⟨m + 1, _, rfl, by go_num, by omega, HZ.out, HE2, hB⟩
        case measure => simp [intOf]; omega
      by_cases c34 : b = 34
      · have d1 : ((b : Int) == 10) = false := by rw [beq_eq_false_iff_ne]; omega
        have d2 : ((b : Int) == 9) = false := by rw [beq_eq_false_iff_ne]; omega
        have d3 : ((b : Int) == 13) = false := by rw [beq_eq_false_iff_ne]; omega
        have d4 : ((b : Int) == 34) = true := by rw [beq_iff_eq]; omega
        have HE := Lib.hid (HN.out [92, b] (by unfold quoteB; simp [c34]))
        have HE2 : Hid (t ++ ⟨#[92]⟩ ++ s.extract m (m + 1) = bytesStr ([34] ++ quoteL (s.data.toList.take (m + 1)))) := Lib.hid (by rw [← HE.out]; first | rfl | (rw [ba_assoc]; rfl) | (rw [ba_assoc, hx1]; exact congrArg _ (bytesStr_append [92] [b])) | rw [hx1])
        have HZ : Hid ((t ++ ⟨#[92]⟩ ++ s.extract m (m + 1)).size ≤ 1 + 4 * (m + 1)) := Lib.hid (by rw [HE2.out, ← HE.out, ByteArray.size_append, bytesStr_size]; simp; omega)
        clear HN HE hx1 hql
        go_wp2
        go_roundw
        case rel => exact ⟨m + 1, _, rfl, by go_num, by omega, HZ.out, HE2, hB⟩
        case measure => simp [intOf]; omega
      by_cases c92 : b = 92
      · have d1 : ((b : Int) == 10) = false := by rw [beq_eq_false_iff_ne]; omega
        have d2 : ((b : Int) == 9) = false := by rw [beq_eq_false_iff_ne]; omega
        have d3 : ((b : Int) == 13) = false := by rw [beq_eq_false_iff_ne]; omega
        have d4 : ((b : Int) == 34) = false := by rw [beq_eq_false_iff_ne]; omega
        have d5 : ((b : Int) == 92) = true := by rw [beq_iff_eq]; omega
        have HE := Lib.hid (HN.out [92, b] (by unfold quoteB; simp [c92]))
        have HE2 : Hid (t ++ ⟨#[92]⟩ ++ s.extract m (m + 1) = bytesStr ([34] ++ quoteL (s.data.toList.take (m + 1)))) := Lib.hid (by rw [← HE.out]; first | rfl | (rw [ba_assoc]; rfl) | (rw [ba_assoc, hx1]; exact congrArg _ (bytesStr_append [92] [b])) | rw [hx1])
        have HZ : Hid ((t ++ ⟨#[92]⟩ ++ s.extract m (m + 1)).size ≤ 1 + 4 * (m + 1)) := Lib.hid (by rw [HE2.out, ← HE.out, ByteArray.size_append, bytesStr_size]; simp; omega)
        clear HN HE hx1 hql
        go_wp2
        go_roundw
        case rel => exact ⟨m + 1, _, rfl, by go_num, by omega, HZ.out, HE2, hB⟩
        case measure => simp [intOf]; omega
      by_cases c32 : 32 ≤ b
      · by_cases c127 : b < 127
        · have d1 : ((b : Int) == 10) = false := by rw [beq_eq_false_iff_ne]; omega
          have d2 : ((b : Int) == 9) = false := by rw [beq_eq_false_iff_ne]; omega
          have d3 : ((b : Int) == 13) = false := by rw [beq_eq_false_iff_ne]; omega
          have d4 : ((b : Int) == 34) = false := by rw [beq_eq_false_iff_ne]; omega
          have d5 : ((b : Int) == 92) = false := by rw [beq_eq_false_iff_ne]; omega
          have d6 : (32 : Int) ≤ b := by omega
          have d7 : (b : Int) < 127 := by omega
          have HE := Lib.hid (HN.out [b] (by unfold quoteB; simp [c10, c9, c13, c34, c92, c32, (by omega : b ≤ 126)]))
          have HE2 : Hid (t ++ s.extract m (m + 1) = bytesStr ([34] ++ quoteL (s.data.toList.take (m + 1)))) := Lib.hid (by rw [← HE.out]; first | rfl | (rw [ba_assoc]; rfl) | (rw [ba_assoc, hx1]; exact congrArg _ (bytesStr_append [92] [b])) | rw [hx1])
          have HZ : Hid ((t ++ s.extract m (m + 1)).size ≤ 1 + 4 * (m + 1)) := Lib.hid (by rw [HE2.out, ← HE.out, ByteArray.size_append, bytesStr_size]; simp; omega)
          clear HN HE hx1 hql
          go_wp2
          go_roundw
          case rel => exact ⟨m + 1, _, rfl, by go_num, by omega, HZ.out, HE2, hB⟩
          case measure => simp [intOf]; omega
        · have d1 : ((b : Int) == 10) = false := by rw [beq_eq_false_iff_ne]; omega
          have d2 : ((b : Int) == 9) = false := by rw [beq_eq_false_iff_ne]; omega
          have d3 : ((b : Int) == 13) = false := by rw [beq_eq_false_iff_ne]; omega
          have d4 : ((b : Int) == 34) = false := by rw [beq_eq_false_iff_ne]; omega
          have d5 : ((b : Int) == 92) = false := by rw [beq_eq_false_iff_ne]; omega
          have d6 : (32 : Int) ≤ b := by omega
          have d7 : ¬ (b : Int) < 127 := by omega
          have HE := Lib.hid (HN.out [92, 120, hexC (b / 16), hexC (b % 16)] (by unfold quoteB; simp [c10, c9, c13, c34, c92]; omega))
          have hI1 : ∀ w', (Instr.index 9 (.string ⟨#[48, 49, 50, 51, 52, 53, 54, 55, 56, 57, 97, 98, 99, 100, 101, 102]⟩) (.int .u8 ((b : Int) / 16))).run Tryz.prog w' = .ok (.int .u8 (hexC (b / 16) : Nat)) w' := by
            rw [show ((b : Int) / 16) = ((b / 16 : Nat) : Int) by omega]; exact hex_ix (b / 16) (by omega)
          have hI2 : ∀ w', (Instr.index 9 (.string ⟨#[48, 49, 50, 51, 52, 53, 54, 55, 56, 57, 97, 98, 99, 100, 101, 102]⟩) (.int .u8 ((b : Int) % 16))).run Tryz.prog w' = .ok (.int .u8 (hexC (b % 16) : Nat)) w' := by
            rw [show ((b : Int) % 16) = ((b % 16 : Nat) : Int) by omega]; exact hex_ix (b % 16) (by omega)
          obtain ⟨x, hx⟩ : ∃ x, x = hexC (b / 16) := ⟨_, rfl⟩
          obtain ⟨y, hy⟩ : ∃ y, y = hexC (b % 16) := ⟨_, rfl⟩
          rw [← hx, ← hy] at HE
          rw [← hx] at hI1
          rw [← hy] at hI2
          have HC3 : (convert 58 9 (.slice (some ⟨wr.heap.size, 0, none⟩) 2 2)).run Tryz.prog (wr.alloc (.cells #[.int .u8 x, .int .u8 y] 5)).drew = .ok (.string (bytesStr [x, y])) (wr.alloc (.cells #[.int .u8 x, .int .u8 y] 5)).drew := conv_two x y wr.heap.size _ ((Blk.new wr 5 #[.int .u8 x, .int .u8 y]).cell 0) ((Blk.new wr 5 #[.int .u8 x, .int .u8 y]).cell 1)
          have hz2 : (bytesStr [x, y]).size = 2 := bytesStr_size [x, y]
          have HE2 : Hid (t ++ ⟨#[92, 120]⟩ ++ bytesStr [x, y] = bytesStr ([34] ++ quoteL (s.data.toList.take (m + 1)))) := Lib.hid (by rw [← HE.out, ba_assoc]; exact congrArg _ (bytesStr_append [92, 120] [x, y]))
          have HZ : Hid ((t ++ ⟨#[92, 120]⟩ ++ bytesStr [x, y]).size ≤ 1 + 4 * (m + 1)) := Lib.hid (by rw [HE2.out, ← HE.out, ByteArray.size_append, bytesStr_size]; simp; omega)
          have HB2 : Hid (Below w.heap.size w (wr.alloc (.cells #[.int .u8 x, .int .u8 y] 5)).drew) := Lib.hid (hB.out.alloc hszr _).drew
          clear HN HE hx1 hx hy hql
          go_wp2
          go_region
          all_goals go_wp2
          all_goals go_roundw
          all_goals first
            | exact ⟨m + 1, _, rfl, by go_num, by omega, HZ.out, HE2, HB2⟩
            | (simp [intOf]; omega)
      · have d1 : ((b : Int) == 10) = false := by rw [beq_eq_false_iff_ne]; omega
        have d2 : ((b : Int) == 9) = false := by rw [beq_eq_false_iff_ne]; omega
        have d3 : ((b : Int) == 13) = false := by rw [beq_eq_false_iff_ne]; omega
        have d4 : ((b : Int) == 34) = false := by rw [beq_eq_false_iff_ne]; omega
        have d5 : ((b : Int) == 92) = false := by rw [beq_eq_false_iff_ne]; omega
        have d6 : ¬ (32 : Int) ≤ b := by omega
        have HE := Lib.hid (HN.out [92, 120, hexC (b / 16), hexC (b % 16)] (by unfold quoteB; simp [c10, c9, c13, c34, c92, c32]))
        have hI1 : ∀ w', (Instr.index 9 (.string ⟨#[48, 49, 50, 51, 52, 53, 54, 55, 56, 57, 97, 98, 99, 100, 101, 102]⟩) (.int .u8 ((b : Int) / 16))).run Tryz.prog w' = .ok (.int .u8 (hexC (b / 16) : Nat)) w' := by
          rw [show ((b : Int) / 16) = ((b / 16 : Nat) : Int) by omega]; exact hex_ix (b / 16) (by omega)
        have hI2 : ∀ w', (Instr.index 9 (.string ⟨#[48, 49, 50, 51, 52, 53, 54, 55, 56, 57, 97, 98, 99, 100, 101, 102]⟩) (.int .u8 ((b : Int) % 16))).run Tryz.prog w' = .ok (.int .u8 (hexC (b % 16) : Nat)) w' := by
          rw [show ((b : Int) % 16) = ((b % 16 : Nat) : Int) by omega]; exact hex_ix (b % 16) (by omega)
        obtain ⟨x, hx⟩ : ∃ x, x = hexC (b / 16) := ⟨_, rfl⟩
        obtain ⟨y, hy⟩ : ∃ y, y = hexC (b % 16) := ⟨_, rfl⟩
        rw [← hx, ← hy] at HE
        rw [← hx] at hI1
        rw [← hy] at hI2
        have HC3 : (convert 58 9 (.slice (some ⟨wr.heap.size, 0, none⟩) 2 2)).run Tryz.prog (wr.alloc (.cells #[.int .u8 x, .int .u8 y] 5)).drew = .ok (.string (bytesStr [x, y])) (wr.alloc (.cells #[.int .u8 x, .int .u8 y] 5)).drew := conv_two x y wr.heap.size _ ((Blk.new wr 5 #[.int .u8 x, .int .u8 y]).cell 0) ((Blk.new wr 5 #[.int .u8 x, .int .u8 y]).cell 1)
        have hz2 : (bytesStr [x, y]).size = 2 := bytesStr_size [x, y]
        have HE2 : Hid (t ++ ⟨#[92, 120]⟩ ++ bytesStr [x, y] = bytesStr ([34] ++ quoteL (s.data.toList.take (m + 1)))) := Lib.hid (by rw [← HE.out, ba_assoc]; exact congrArg _ (bytesStr_append [92, 120] [x, y]))
        have HZ : Hid ((t ++ ⟨#[92, 120]⟩ ++ bytesStr [x, y]).size ≤ 1 + 4 * (m + 1)) := Lib.hid (by rw [HE2.out, ← HE.out, ByteArray.size_append, bytesStr_size]; simp; omega)
        have HB2 : Hid (Below w.heap.size w (wr.alloc (.cells #[.int .u8 x, .int .u8 y] 5)).drew) := Lib.hid (hB.out.alloc hszr _).drew
        clear HN HE hx1 hx hy hql
        go_wp2
        go_region
        all_goals go_wp2
        all_goals go_roundw
        all_goals first
          | exact ⟨m + 1, _, rfl, by go_num, by omega, HZ.out, HE2, HB2⟩
          | (simp [intOf]; omega)
    · obtain rfl : m = s.size := by omega
      have HE : Hid (t ++ ⟨#[34]⟩ = bytesStr (quoteF s.data.toList)) := by
        refine Lib.hid ?_
        have h := hT.out
        rw [Lib.size_eq, List.take_length] at h
        rw [h]
        exact bytesStr_append _ [34]
      go_wp2
      go_ret
      exact ⟨congrArg (fun x => Ending.returned (.string x)) HE.out, hB.out⟩
end Go.Proofs.YtdodkbpagbblmaaGreatDoor
end
