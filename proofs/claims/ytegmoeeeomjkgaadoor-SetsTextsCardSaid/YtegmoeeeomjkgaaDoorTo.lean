import Derived.Deep.RegionHeld3
import Derived.Test.YtegmoeeeomjkgaaDoorT3
import Derived.Test.YtegmoeeeomjkgaaDoorRefA
namespace Go.Proofs.YtegmoeeeomjkgaaDoor
open Go Go.RowKit

theorem conv_one (b : Nat) (g : Nat) (w : World) (hg : w.cell? ⟨g, 0, none⟩ = some (.int .u8 b)) : (convert 23 9 (.slice (some ⟨g, 0, none⟩) 1 1)).run Tryd.prog w = .ok (.string (bytesStr [b])) w := by
  refine run_convert_bytes_arg w 23 5 Tryd.underlying23 Tryd.underlying5 g 0 1 1 [(b : Int)] rfl ?_ 9 Tryd.underlying9
  intro i hi
  obtain rfl : i = 0 := by omega
  simpa using hg
theorem conv_two (b c : Nat) (g : Nat) (w : World) (h0 : w.cell? ⟨g, 0, none⟩ = some (.int .u8 b)) (h1 : w.cell? ⟨g, 1, none⟩ = some (.int .u8 c)) : (convert 23 9 (.slice (some ⟨g, 0, none⟩) 2 2)).run Tryd.prog w = .ok (.string (bytesStr [b, c])) w := by
  refine run_convert_bytes_arg w 23 5 Tryd.underlying23 Tryd.underlying5 g 0 2 2 [(b : Int), (c : Int)] rfl ?_ 9 Tryd.underlying9
  intro i hi
  have : i = 0 ∨ i = 1 := by omega
  rcases this with rfl | rfl
  · simpa using h0
  · simpa using h1

theorem bytesStr_append (l m : List Nat) : bytesStr l ++ bytesStr m = bytesStr (l ++ m) := by
  unfold bytesStr
  apply ByteArray.ext
  simp [strOfNums]

theorem bytesStr_list (l : List Nat) : (bytesStr l).data.toList = l.map UInt8.ofNat := by
  unfold bytesStr
  simp [strOfNums]
theorem bytesStr_size (l : List Nat) : (bytesStr l).size = l.length := by
  unfold bytesStr
  rw [strOfNums_size]; simp

set_option maxRecDepth 100000 in
set_option maxHeartbeats 4000000 in
theorem rone_any (b : Nat) (hb : b < 256) (w : World) : Calls Tryd.prog 56 #[.int .u8 b] w fun e w' => e = .returned (.string (bytesStr (byteT b))) ∧ Below w.heap.size w w' := by
  by_cases c1 : b = 9
  · subst c1
    go_enter Tryd.func56, Tryd.ntmps56
    go_wp2
    go_ret
    exact ⟨rfl, Below.refl _ _⟩
  · by_cases c2 : b = 10
    · subst c2
      go_enter Tryd.func56, Tryd.ntmps56
      go_wp2
      go_ret
      exact ⟨rfl, Below.refl _ _⟩
    · by_cases c3 : b = 13
      · subst c3
        go_enter Tryd.func56, Tryd.ntmps56
        go_wp2
        go_ret
        exact ⟨rfl, Below.refl _ _⟩
      · have d1 : ((b : Int) == 9) = false := by simp; omega
        have d2 : ((b : Int) == 10) = false := by simp; omega
        have d3 : ((b : Int) == 13) = false := by simp; omega
        have HC1 := conv_one b w.heap.size (w.alloc (.cells #[.int .u8 b] 5)) ((Blk.new w 5 #[.int .u8 b]).cell 0)
        by_cases hsg : signB b = true
        · have hE : Hid (byteT b = [92, b]) := by refine Lib.hid ?_; unfold byteT; rw [if_neg c1, if_neg c2, if_neg c3, if_pos hsg]
          have hS : Hid (bytesStr [92] ++ bytesStr [b] = bytesStr [92, b]) := bytesStr_append [92] [b]
          have hcs : b = 92 ∨ b = 91 ∨ b = 93 ∨ b = 45 ∨ b = 94 := by
            unfold signB at hsg; simp only [Bool.or_eq_true, beq_iff_eq] at hsg; omega
          have hz1 : (bytesStr [b]).size = 1 := bytesStr_size [b]
          clear hsg c1 c2 c3
          rcases hcs with e | e | e | e | e
          · have q0 : ((b : Int) == 92) = true := by rw [e]; rfl
            clear e
            go_enter Tryd.func56, Tryd.ntmps56
            go_wp2
            go_ret
            exact ⟨by rw [hE.out, ← hS.out]; rfl, (Below.refl _ w).alloc (Nat.le_refl _) _⟩
          · have q0 : ((b : Int) == 92) = false := by rw [e]; rfl
            have q1 : ((b : Int) == 91) = true := by rw [e]; rfl
            clear e
            go_enter Tryd.func56, Tryd.ntmps56
            go_wp2
            go_ret
            exact ⟨by rw [hE.out, ← hS.out]; rfl, (Below.refl _ w).alloc (Nat.le_refl _) _⟩
          · have q0 : ((b : Int) == 92) = false := by rw [e]; rfl
            have q1 : ((b : Int) == 91) = false := by rw [e]; rfl
            have q2 : ((b : Int) == 93) = true := by rw [e]; rfl
            clear e
            go_enter Tryd.func56, Tryd.ntmps56
            go_wp2
            go_ret
            exact ⟨by rw [hE.out, ← hS.out]; rfl, (Below.refl _ w).alloc (Nat.le_refl _) _⟩
          · have q0 : ((b : Int) == 92) = false := by rw [e]; rfl
            have q1 : ((b : Int) == 91) = false := by rw [e]; rfl
            have q2 : ((b : Int) == 93) = false := by rw [e]; rfl
            have q3 : ((b : Int) == 45) = true := by rw [e]; rfl
            clear e
            go_enter Tryd.func56, Tryd.ntmps56
            go_wp2
            go_ret
            exact ⟨by rw [hE.out, ← hS.out]; rfl, (Below.refl _ w).alloc (Nat.le_refl _) _⟩
          · have q0 : ((b : Int) == 92) = false := by rw [e]; rfl
            have q1 : ((b : Int) == 91) = false := by rw [e]; rfl
            have q2 : ((b : Int) == 93) = false := by rw [e]; rfl
            have q3 : ((b : Int) == 45) = false := by rw [e]; rfl
            have q4 : ((b : Int) == 94) = true := by rw [e]; rfl
            clear e
            go_enter Tryd.func56, Tryd.ntmps56
            go_wp2
            go_ret
            exact ⟨by rw [hE.out, ← hS.out]; rfl, (Below.refl _ w).alloc (Nat.le_refl _) _⟩
        · have hs1 : ((b : Int) == 92) = false := by unfold signB at hsg; simp at hsg ⊢; omega
          have hs2 : ((b : Int) == 91) = false := by unfold signB at hsg; simp at hsg ⊢; omega
          have hs3 : ((b : Int) == 93) = false := by unfold signB at hsg; simp at hsg ⊢; omega
          have hs4 : ((b : Int) == 45) = false := by unfold signB at hsg; simp at hsg ⊢; omega
          have hs5 : ((b : Int) == 94) = false := by unfold signB at hsg; simp at hsg ⊢; omega
          by_cases c5 : 32 < b ∧ b ≤ 126
          · have hE : Hid (byteT b = [b]) := by refine Lib.hid ?_; unfold byteT; rw [if_neg c1, if_neg c2, if_neg c3, if_neg hsg, if_pos c5]
            obtain ⟨c5, c6⟩ := c5
            have k1 : decide ((32 : Int) < (b : Int)) = true := by simp; omega
            have k2 : decide ((b : Int) < 127) = true := by simp; omega
            clear hsg c1 c2 c3
            go_enter Tryd.func56, Tryd.ntmps56
            go_wp2
            go_ret
            exact ⟨by rw [hE.out]; rfl, (Below.refl _ w).alloc (Nat.le_refl _) _⟩
          · have hE : Hid (byteT b = [92, 120, hexC (b / 16), hexC (b % 16)]) := by refine Lib.hid ?_; unfold byteT; rw [if_neg c1, if_neg c2, if_neg c3, if_neg hsg, if_neg c5]
            have hS : Hid (bytesStr [92, 120] ++ bytesStr [hexC (b / 16), hexC (b % 16)] = bytesStr [92, 120, hexC (b / 16), hexC (b % 16)]) := bytesStr_append [92, 120] [hexC (b / 16), hexC (b % 16)]
            have hI1 : ∀ w', (Instr.index 9 (.string ⟨#[48, 49, 50, 51, 52, 53, 54, 55, 56, 57, 97, 98, 99, 100, 101, 102]⟩) (.int .u8 ((b : Int) / 16))).run Tryd.prog w' = .ok (.int .u8 (hexC (b / 16) : Nat)) w' := by
              rw [show ((b : Int) / 16) = ((b / 16 : Nat) : Int) by omega]; exact hex_ix (b / 16) (by omega)
            have hI2 : ∀ w', (Instr.index 9 (.string ⟨#[48, 49, 50, 51, 52, 53, 54, 55, 56, 57, 97, 98, 99, 100, 101, 102]⟩) (.int .u8 ((b : Int) % 16))).run Tryd.prog w' = .ok (.int .u8 (hexC (b % 16) : Nat)) w' := by
              rw [show ((b : Int) % 16) = ((b % 16 : Nat) : Int) by omega]; exact hex_ix (b % 16) (by omega)
            obtain ⟨x, hx⟩ : ∃ x, x = hexC (b / 16) := ⟨_, rfl⟩
            obtain ⟨y, hy⟩ : ∃ y, y = hexC (b % 16) := ⟨_, rfl⟩
            rw [← hx, ← hy] at hE hS
            rw [← hx] at hI1
            rw [← hy] at hI2
            have HC2 := fun (W : World) (h0 : W.cell? ⟨w.heap.size, 0, none⟩ = some (.int .u8 x)) (h1 : W.cell? ⟨w.heap.size, 1, none⟩ = some (.int .u8 y)) => conv_two x y w.heap.size W h0 h1
            have HC3 : (convert 23 9 (.slice (some ⟨w.heap.size, 0, none⟩) 2 2)).run Tryd.prog (w.alloc (.cells #[.int .u8 x, .int .u8 y] 5)).drew = .ok (.string (bytesStr [x, y])) (w.alloc (.cells #[.int .u8 x, .int .u8 y] 5)).drew := HC2 _ ((Blk.new w 5 #[.int .u8 x, .int .u8 y]).cell 0) ((Blk.new w 5 #[.int .u8 x, .int .u8 y]).cell 1)
            have hz2 : (bytesStr [x, y]).size = 2 := bytesStr_size [x, y]
            clear hx hy HC1 HC2 hsg
            by_cases c6 : 32 < b
            · have k1 : decide ((32 : Int) < (b : Int)) = true := by simp; omega
              have k2 : decide ((b : Int) < 127) = false := by simp; omega
              clear c1 c2 c3
              go_enter Tryd.func56, Tryd.ntmps56
              go_wp2
              go_region
              all_goals go_wp2
              all_goals go_ret
              all_goals exact ⟨by rw [hE.out, ← hS.out]; rfl, ((Below.refl _ w).alloc (Nat.le_refl _) _).drew⟩
            · have k1 : decide ((32 : Int) < (b : Int)) = false := by simp; omega
              clear c1 c2 c3
              go_enter Tryd.func56, Tryd.ntmps56
              go_wp2
              go_region
              all_goals go_wp2
              all_goals go_ret
              all_goals exact ⟨by rw [hE.out, ← hS.out]; rfl, ((Below.refl _ w).alloc (Nat.le_refl _) _).drew⟩
end Go.Proofs.YtegmoeeeomjkgaaDoor
