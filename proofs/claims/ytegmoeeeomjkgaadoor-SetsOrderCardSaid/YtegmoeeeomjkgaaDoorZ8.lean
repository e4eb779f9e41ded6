import Derived.Deep.RegionHeld3
import Derived.Deep.QuietTactic
import Derived.BigQuiet
import Derived.Deep.DeepCutAuto
import Derived.Test.YtegmoeeeomjkgaaDoorZ1
import Derived.Test.YtegmoeeeomjkgaaDoorZ3
import Derived.Test.YtegmoeeeomjkgaaDoorZ4
import Derived.Test.YtegmoeeeomjkgaaDoorZ5
import Derived.Test.YtegmoeeeomjkgaaDoorZ6
section
namespace Go.Proofs.YtegmoeeeomjkgaaDoor
open Go Go.RowKit

theorem conv_one (b : Nat) (g : Nat) (w : World) (hg : w.cell? ⟨g, 0, none⟩ = some (.int .u8 b)) : (convert 23 9 (.slice (some ⟨g, 0, none⟩) 1 1)).run Tryd.prog w = .ok (.string (bytesStr [b])) w := by
  refine run_convert_bytes_arg w 23 5 Tryd.underlying23 Tryd.underlying5 g 0 1 1 [(b : Int)] rfl ?_ 9 Tryd.underlying9
  intro i hi
  obtain rfl : i = 0 := by omega
  simpa using hg
theorem conv_two (b c : Nat) (g : Nat) (w : World) (h0 : w.cell? ⟨g, 0, none⟩ = some (.int .u8 b)) (h1 : w.cell? ⟨g, 1, none⟩ = some (.int .u8 c)) : (convert 23 9 (.slice (some ⟨g, 0, none⟩) 2 2)).run Tryd.prog w = .ok (.string (bytesStr [b, c])) w := by
  refine run_convert_bytes_arg w 23 5 Tryd.underlying23 Tryd.underlying5 g 0 2 2 [(b : Int), (c : Int)] rfl ?_ 9 Tryd.underlying9
  intro i hi
  have : i = 0 ∨ i = 1 := by omega
  rcases this with rfl | rfl
  · simpa using h0
  · simpa using h1

theorem bytesStr_append (l m : List Nat) : bytesStr l ++ bytesStr m = bytesStr (l ++ m) := by
  unfold bytesStr
  apply ByteArray.ext
  simp [strOfNums]

theorem bytesStr_list (l : List Nat) : (bytesStr l).data.toList = l.map UInt8.ofNat := by
  unfold bytesStr
  simp [strOfNums]
theorem bytesStr_size (l : List Nat) : (bytesStr l).size = l.length := by
  unfold bytesStr
  rw [strOfNums_size]; simp

set_option maxRecDepth 100000 in
set_option maxHeartbeats 4000000 in
theorem rone_any (b : Nat) (hb : b < 256) (w : World) : Calls Tryd.prog 56 #[.int .u8 b] w fun e w' => e = .returned (.string (bytesStr (byteT b))) ∧ Below w.heap.size w w' := by
  by_cases c1 : b = 9
  · subst c1
    go_enter Tryd.func56, Tryd.ntmps56
    go_wp2
    go_ret
    exact ⟨rfl, Below.refl _ _⟩
  · by_cases c2 : b = 10
    · subst c2
      go_enter Tryd.func56, Tryd.ntmps56
      go_wp2
      go_ret
      exact ⟨rfl, Below.refl _ _⟩
    · by_cases c3 : b = 13
      · subst c3
        go_enter Tryd.func56, Tryd.ntmps56
        go_wp2
        go_ret
        exact ⟨rfl, Below.refl _ _⟩
      · have d1 : ((b : Int) == 9) = false := by simp; omega
        have d2 : ((b : Int) == 10) = false := by simp; omega
        have d3 : ((b : Int) == 13) = false := by simp; omega
        have HC1 := conv_one b w.heap.size (w.alloc (.cells #[.int .u8 b] 5)) ((Blk.new w 5 #[.int .u8 b]).cell 0)
        by_cases hsg : signB b = true
        · have hE : Hid (byteT b = [92, b]) := by refine Lib.hid ?_; unfold byteT; rw [if_neg c1, if_neg c2, if_neg c3, if_pos hsg]
          have hS : Hid (bytesStr [92] ++ bytesStr [b] = bytesStr [92, b]) := bytesStr_append [92] [b]
          have hcs : b = 92 ∨ b = 91 ∨ b = 93 ∨ b = 45 ∨ b = 94 := by
            unfold signB at hsg; simp only [Bool.or_eq_true, beq_iff_eq] at hsg; omega
          have hz1 : (bytesStr [b]).size = 1 := bytesStr_size [b]
          clear hsg c1 c2 c3
          rcases hcs with e | e | e | e | e
          · have q0 : ((b : Int) == 92) = true := by rw [e]; rfl
            clear e
            go_enter Tryd.func56, Tryd.ntmps56
            go_wp2
            go_ret
            exact ⟨by rw [hE.out, ← hS.out]; rfl, (Below.refl _ w).alloc (Nat.le_refl _) _⟩
          · have q0 : ((b : Int) == 92) = false := by rw [e]; rfl
            have q1 : ((b : Int) == 91) = true := by rw [e]; rfl
            clear e
            go_enter Tryd.func56, Tryd.ntmps56
            go_wp2
            go_ret
            exact ⟨by rw [hE.out, ← hS.out]; rfl, (Below.refl _ w).alloc (Nat.le_refl _) _⟩
          · have q0 : ((b : Int) == 92) = false := by rw [e]; rfl
            have q1 : ((b : Int) == 91) = false := by rw [e]; rfl
            have q2 : ((b : Int) == 93) = true := by rw [e]; rfl
            clear e
            go_enter Tryd.func56, Tryd.ntmps56
            go_wp2
            go_ret
            exact ⟨by rw [hE.out, ← hS.out]; rfl, (Below.refl _ w).alloc (Nat.le_refl _) _⟩
          · have q0 : ((b : Int) == 92) = false := by rw [e]; rfl
            have q1 : ((b : Int) == 91) = false := by rw [e]; rfl
            have q2 : ((b : Int) == 93) = false := by rw [e]; rfl
            have q3 : ((b : Int) == 45) = true := by rw [e]; rfl
            clear e
            go_enter Tryd.func56, Tryd.ntmps56
            go_wp2
            go_ret
            exact ⟨by rw [hE.out, ← hS.out]; rfl, (Below.refl _ w).alloc (Nat.le_refl _) _⟩
          · have q0 : ((b : Int) == 92) = false := by rw [e]; rfl
            have q1 : ((b : Int) == 91) = false := by rw [e]; rfl
            have q2 : ((b : Int) == 93) = false := by rw [e]; rfl
            have q3 : ((b : Int) == 45) = false := by rw [e]; rfl
            have q4 : ((b : Int) == 94) = true := by rw [e]; rfl
            clear e
            go_enter Tryd.func56, Tryd.ntmps56
            go_wp2
            go_ret
            exact ⟨by rw [hE.out, ← hS.out]; rfl, (Below.refl _ w).alloc (Nat.le_refl _) _⟩
        · have hs1 : ((b : Int) == 92) = false := by unfold signB at hsg; simp at hsg ⊢; omega
          have hs2 : ((b : Int) == 91) = false := by unfold signB at hsg; simp at hsg ⊢; omega
          have hs3 : ((b : Int) == 93) = false := by unfold signB at hsg; simp at hsg ⊢; omega
          have hs4 : ((b : Int) == 45) = false := by unfold signB at hsg; simp at hsg ⊢; omega
          have hs5 : ((b : Int) == 94) = false := by unfold signB at hsg; simp at hsg ⊢; omega
          by_cases c5 : 32 < b ∧ b ≤ 126
          · have hE : Hid (byteT b = [b]) := by refine Lib.hid ?_; unfold byteT; rw [if_neg c1, if_neg c2, if_neg c3, if_neg hsg, if_pos c5]
            obtain ⟨c5, c6⟩ := c5
            have k1 : decide ((32 : Int) < (b : Int)) = true := by simp; omega
            have k2 : decide ((b : Int) < 127) = true := by simp; omega
            clear hsg c1 c2 c3
            go_enter Tryd.func56, Tryd.ntmps56
            go_wp2
            go_ret
            exact ⟨by rw [hE.out]; rfl, (Below.refl _ w).alloc (Nat.le_refl _) _⟩
          · have hE : Hid (byteT b = [92, 120, hexC (b / 16), hexC (b % 16)]) := by refine Lib.hid ?_; unfold byteT; rw [if_neg c1, if_neg c2, if_neg c3, if_neg hsg, if_neg c5]
            have hS : Hid (bytesStr [92, 120] ++ bytesStr [hexC (b / 16), hexC (b % 16)] = bytesStr [92, 120, hexC (b / 16), hexC (b % 16)]) := bytesStr_append [92, 120] [hexC (b / 16), hexC (b % 16)]
            have hI1 : ∀ w', (Instr.index 9 (.string ⟨#[48, 49, 50, 51, 52, 53, 54, 55, 56, 57, 97, 98, 99, 100, 101, 102]⟩) (.int .u8 ((b : Int) / 16))).run Tryd.prog w' = .ok (.int .u8 (hexC (b / 16) : Nat)) w' := by
              rw [show ((b : Int) / 16) = ((b / 16 : Nat) : Int) by omega]; exact hex_ix (b / 16) (by omega)
            have hI2 : ∀ w', (Instr.index 9 (.string ⟨#[48, 49, 50, 51, 52, 53, 54, 55, 56, 57, 97, 98, 99, 100, 101, 102]⟩) (.int .u8 ((b : Int) % 16))).run Tryd.prog w' = .ok (.int .u8 (hexC (b % 16) : Nat)) w' := by
              rw [show ((b : Int) % 16) = ((b % 16 : Nat) : Int) by omega]; exact hex_ix (b % 16) (by omega)
            obtain ⟨x, hx⟩ : ∃ x, x = hexC (b / 16) := ⟨_, rfl⟩
            obtain ⟨y, hy⟩ : ∃ y, y = hexC (b % 16) := ⟨_, rfl⟩
            rw [← hx, ← hy] at hE hS
            rw [← hx] at hI1
            rw [← hy] at hI2
            have HC2 := fun (W : World) (h0 : W.cell? ⟨w.heap.size, 0, none⟩ = some (.int .u8 x)) (h1 : W.cell? ⟨w.heap.size, 1, none⟩ = some (.int .u8 y)) => conv_two x y w.heap.size W h0 h1
            have HC3 : (convert 23 9 (.slice (some ⟨w.heap.size, 0, none⟩) 2 2)).run Tryd.prog (w.alloc (.cells #[.int .u8 x, .int .u8 y] 5)).drew = .ok (.string (bytesStr [x, y])) (w.alloc (.cells #[.int .u8 x, .int .u8 y] 5)).drew := HC2 _ ((Blk.new w 5 #[.int .u8 x, .int .u8 y]).cell 0) ((Blk.new w 5 #[.int .u8 x, .int .u8 y]).cell 1)
            have hz2 : (bytesStr [x, y]).size = 2 := bytesStr_size [x, y]
            clear hx hy HC1 HC2 hsg
            by_cases c6 : 32 < b
            · have k1 : decide ((32 : Int) < (b : Int)) = true := by simp; omega
              have k2 : decide ((b : Int) < 127) = false := by simp; omega
              clear c1 c2 c3
              go_enter Tryd.func56, Tryd.ntmps56
              go_wp2
              go_region
              all_goals go_wp2
              all_goals go_ret
              all_goals exact ⟨by rw [hE.out, ← hS.out]; rfl, ((Below.refl _ w).alloc (Nat.le_refl _) _).drew⟩
            · have k1 : decide ((32 : Int) < (b : Int)) = false := by simp; omega
              clear c1 c2 c3
              go_enter Tryd.func56, Tryd.ntmps56
              go_wp2
              go_region
              all_goals go_wp2
              all_goals go_ret
              all_goals exact ⟨by rw [hE.out, ← hS.out]; rfl, ((Below.refl _ w).alloc (Nat.le_refl _) _).drew⟩
end Go.Proofs.YtegmoeeeomjkgaaDoor
end
section
namespace Go.Proofs.YtegmoeeeomjkgaaDoor
open Go Go.RowKit

/-- Does a byte's text stand at a text's beginning? -/
def matchB (l : List UInt8) (b : Nat) : Prop := byteT b <+: l.map UInt8.toNat

theorem hexs_two (c d : UInt8) : hexs 0 [c, d] = (match hexD c.toNat, hexD d.toNat with | some a, some b => some (16 * a + b) | _, _ => none) := by
  unfold hexs
  cases h1 : hexD c.toNat with
  | none => rfl
  | some a =>
    simp only [Nat.zero_mul, Nat.zero_add]
    unfold hexs
    cases h2 : hexD d.toNat with
    | none => rfl
    | some b =>
      simp only
      unfold hexs
      congr 1; omega

theorem hexD_lt (c : Nat) (hc : c < 256) (a : Nat) (h : hexD c = some a) : a < 16 := by
  have hall : ∀ c : Fin 256, ∀ a, hexD c.val = some a → a < 16 := by
    intro c a h
    have h2 : ∀ c : Fin 256, (hexD c.val).all (fun a => decide (a < 16)) = true := by decide +kernel
    have := h2 c
    rw [h] at this
    simpa using this
  exact hall ⟨c, hc⟩ a h

theorem hexD_C : ∀ b : Fin 256, (hexD (hexC (b.val / 16)) = some (b.val / 16)) ∧ (hexD (hexC (b.val % 16)) = some (b.val % 16)) := by decide +kernel

theorem byteT_cases (b : Nat) : (b = 9 ∧ byteT b = [92, 116]) ∨ (b = 10 ∧ byteT b = [92, 110]) ∨ (b = 13 ∧ byteT b = [92, 114]) ∨ (signB b = true ∧ byteT b = [92, b]) ∨ (signB b = false ∧ (32 < b ∧ b ≤ 126) ∧ byteT b = [b]) ∨ (byteT b = [92, 120, hexC (b / 16), hexC (b % 16)]) := by
  unfold byteT
  by_cases c1 : b = 9
  · exact .inl ⟨c1, by rw [if_pos c1]⟩
  · by_cases c2 : b = 10
    · exact .inr (.inl ⟨c2, by rw [if_neg c1, if_pos c2]⟩)
    · by_cases c3 : b = 13
      · exact .inr (.inr (.inl ⟨c3, by rw [if_neg c1, if_neg c2, if_pos c3]⟩))
      · cases hs : signB b with
        | true => exact .inr (.inr (.inr (.inl ⟨rfl, by rw [if_neg c1, if_neg c2, if_neg c3]; rfl⟩)))
        | false =>
          by_cases c5 : 32 < b ∧ b ≤ 126
          · exact .inr (.inr (.inr (.inr (.inl ⟨rfl, c5, by rw [if_neg c1, if_neg c2, if_neg c3, if_neg (by simp), if_pos c5]⟩))))
          · exact .inr (.inr (.inr (.inr (.inr (by rw [if_neg c1, if_neg c2, if_neg c3, if_neg (by simp), if_neg c5])))))

theorem map_pre1 {l : List UInt8} {x : Nat} (h : [x] <+: l.map UInt8.toNat) : ∃ c r, l = c :: r ∧ c.toNat = x := by
  cases l with
  | nil => obtain ⟨t, ht⟩ := h; simp at ht
  | cons c r => obtain ⟨t, ht⟩ := h; simp at ht; exact ⟨c, r, rfl, ht.1.symm⟩
theorem map_pre2 {l : List UInt8} {x y : Nat} (h : [x, y] <+: l.map UInt8.toNat) : ∃ c d r, l = c :: d :: r ∧ c.toNat = x ∧ d.toNat = y := by
  match l with
  | [] => obtain ⟨t, ht⟩ := h; simp at ht
  | [c] => obtain ⟨t, ht⟩ := h; simp at ht
  | c :: d :: r => obtain ⟨t, ht⟩ := h; simp at ht; exact ⟨c, d, r, rfl, ht.1.symm, ht.2.1.symm⟩
theorem map_pre4 {l : List UInt8} {x y z u : Nat} (h : [x, y, z, u] <+: l.map UInt8.toNat) : ∃ c d e f r, l = c :: d :: e :: f :: r ∧ c.toNat = x ∧ d.toNat = y ∧ e.toNat = z ∧ f.toNat = u := by
  match l with
  | [] => obtain ⟨t, ht⟩ := h; simp at ht
  | [c] => obtain ⟨t, ht⟩ := h; simp at ht
  | [c, d] => obtain ⟨t, ht⟩ := h; simp at ht
  | [c, d, e] => obtain ⟨t, ht⟩ := h; simp at ht
  | c :: d :: e :: f :: r => obtain ⟨t, ht⟩ := h; simp at ht; exact ⟨c, d, e, f, r, rfl, ht.1.symm, ht.2.1.symm, ht.2.2.1.symm, ht.2.2.2.1.symm⟩

/-- A byte whose text stands there is the one that is read there. -/
theorem match_byteB (l : List UInt8) (b : Nat) (hb : b < 256) (h : matchB l b) : byteB l = (b, (byteT b).length) := by
  unfold matchB at h
  rcases byteT_cases b with ⟨rfl, e⟩ | ⟨rfl, e⟩ | ⟨rfl, e⟩ | ⟨hs, e⟩ | ⟨hs, hr, e⟩ | e
  · rw [e] at h ⊢
    obtain ⟨c, d, r, rfl, hc, hd⟩ := map_pre2 h
    simp [byteB, escB, hc, hd]
  · rw [e] at h ⊢
    obtain ⟨c, d, r, rfl, hc, hd⟩ := map_pre2 h
    simp [byteB, escB, hc, hd]
  · rw [e] at h ⊢
    obtain ⟨c, d, r, rfl, hc, hd⟩ := map_pre2 h
    simp [byteB, escB, hc, hd]
  · rw [e] at h ⊢
    obtain ⟨c, d, r, rfl, hc, hd⟩ := map_pre2 h
    have hcs : b = 92 ∨ b = 91 ∨ b = 93 ∨ b = 45 ∨ b = 94 := by
      unfold signB at hs; simp only [Bool.or_eq_true, beq_iff_eq] at hs; omega
    have n1 : ¬ b = 116 := by omega
    have n2 : ¬ b = 110 := by omega
    have n3 : ¬ b = 114 := by omega
    simp [byteB, escB, hc, hd, n1, n2, n3, hs]
  · rw [e] at h ⊢
    obtain ⟨c, r, rfl, hc⟩ := map_pre1 h
    have hn : ¬ b = 92 := by intro e; subst e; cases hs
    have h1 : 32 ≤ b := by omega
    simp [byteB, hc, hn, hs, h1, hr.2]
  · rw [e] at h ⊢
    obtain ⟨c, d, x, y, r, rfl, hc, hd, hx, hy⟩ := map_pre4 h
    have hk : hexs 0 [x, y] = some b := by
      rw [hexs_two, hx, hy, (hexD_C ⟨b, hb⟩).1, (hexD_C ⟨b, hb⟩).2]
      simp only
      congr 1; omega
    have n1 : signB 120 = false := by decide
    simp [byteB, escB, hc, hd, n1, hk, Nat.mod_eq_of_lt hb]

/-- What is read there stands there by its text, or is a blank, or an escape by digits. -/
theorem byteB_match (l : List UInt8) (h : (byteB l).2 ≠ 0) : matchB l (byteB l).1 ∨ (∃ c r, l = c :: r ∧ c.toNat = 32) ∨ ∃ c d x y r, l = c :: d :: x :: y :: r ∧ c.toNat = 92 ∧ d.toNat = 120 ∧ hexD x.toNat ≠ none ∧ hexD y.toNat ≠ none := by
  cases l with
  | nil => exact absurd rfl h
  | cons c r =>
    by_cases hc : c.toNat = 92
    · have he : byteB (c :: r) = escB (c :: r) := by simp [byteB, hc]
      rw [he] at h ⊢
      cases r with
      | nil => exact absurd rfl h
      | cons d r =>
        unfold escB at h ⊢
        dsimp only at h ⊢
        by_cases k1 : d.toNat = 116
        · left; rw [if_pos k1]; unfold matchB; rw [show byteT 9 = [92, 116] from rfl]; exact ⟨r.map UInt8.toNat, by simp [hc, k1]⟩
        · by_cases k2 : d.toNat = 110
          · left; rw [if_neg k1, if_pos k2]; unfold matchB; rw [show byteT 10 = [92, 110] from rfl]; exact ⟨r.map UInt8.toNat, by simp [hc, k2]⟩
          · by_cases k3 : d.toNat = 114
            · left; rw [if_neg k1, if_neg k2, if_pos k3]; unfold matchB; rw [show byteT 13 = [92, 114] from rfl]; exact ⟨r.map UInt8.toNat, by simp [hc, k3]⟩
            · by_cases k4 : signB d.toNat = true
              · left; rw [if_neg k1, if_neg k2, if_neg k3, if_pos k4]; unfold matchB
                have hcs : d.toNat = 92 ∨ d.toNat = 91 ∨ d.toNat = 93 ∨ d.toNat = 45 ∨ d.toNat = 94 := by
                  unfold signB at k4; simp only [Bool.or_eq_true, beq_iff_eq] at k4; omega
                have ht : byteT d.toNat = [92, d.toNat] := by rcases hcs with e | e | e | e | e <;> rw [e] <;> rfl
                rw [ht]; exact ⟨r.map UInt8.toNat, by simp [hc]⟩
              · rw [if_neg k1, if_neg k2, if_neg k3, if_neg k4] at h ⊢
                by_cases k5 : d.toNat = 120 ∧ 2 ≤ r.length
                · rw [if_pos k5] at h ⊢
                  right; right
                  match r, k5, h with
                  | x :: y :: r, k5, h =>
                    refine ⟨c, d, x, y, r, rfl, hc, k5.1, ?_, ?_⟩
                    · intro hn
                      simp [hexs_two, hn] at h
                    · intro hn
                      simp [hexs_two, hn] at h
                · rw [if_neg k5] at h; exact absurd rfl h
    · by_cases hr : 32 ≤ c.toNat ∧ c.toNat ≤ 126 ∧ signB c.toNat = false
      · have he : byteB (c :: r) = (c.toNat, 1) := by simp [byteB, hc, hr]
        rw [he]
        by_cases h32 : c.toNat = 32
        · exact .inr (.inl ⟨c, r, rfl, h32⟩)
        · left
          unfold matchB
          have ht : byteT c.toNat = [c.toNat] := by
            rcases byteT_cases c.toNat with ⟨e, _⟩ | ⟨e, _⟩ | ⟨e, _⟩ | ⟨e, _⟩ | ⟨_, _, e⟩ | e
            · omega
            · omega
            · omega
            · rw [hr.2.2] at e; cases e
            · exact e
            · unfold byteT at e ⊢
              rw [if_neg (by omega), if_neg (by omega), if_neg (by omega), hr.2.2, if_neg (by simp), if_pos (by omega)]
          rw [ht]
          exact ⟨r.map UInt8.toNat, by simp⟩
      · have he : byteB (c :: r) = (0, 0) := by simp only [byteB, if_neg hc, if_neg hr]
        rw [he] at h; exact absurd rfl h
end Go.Proofs.YtegmoeeeomjkgaaDoor
end
section
namespace Go.Proofs.YtegmoeeeomjkgaaDoor
open Go Go.RowKit

def hexZ (c : Nat) : Int := match hexD c with
  | some d => d
  | none => -1

theorem hexZ_cases : ∀ c : Fin 256, (48 ≤ c.val ∧ c.val ≤ 57 ∧ hexZ c.val = (c.val : Int) - 48) ∨ (97 ≤ c.val ∧ c.val ≤ 102 ∧ hexZ c.val = (c.val : Int) - 97 + 10) ∨ (65 ≤ c.val ∧ c.val ≤ 70 ∧ hexZ c.val = (c.val : Int) - 65 + 10) ∨
    ((c.val < 48 ∨ 57 < c.val ∧ c.val < 65 ∨ 70 < c.val ∧ c.val < 97 ∨ 102 < c.val) ∧ hexZ c.val = -1) := by decide +kernel

theorem ret_i64 {a b : Int} (h : a = b) : Ending.returned (.int .i64 a) = .returned (.int .i64 b) := by rw [h]

set_option maxRecDepth 100000 in
set_option maxHeartbeats 4000000 in
theorem rhex_any (c : Nat) (hc : c < 256) (w : World) : Calls Tryd.prog 64 #[.int .u8 c] w fun e w' => e = .returned (.int .i64 (hexZ c)) ∧ w' = w := by
  have hh := hexZ_cases ⟨c, hc⟩
  dsimp only at hh
  rcases hh with ⟨a, b, h⟩ | ⟨a, b, h⟩ | ⟨a, b, h⟩ | ⟨a, h⟩
  · have H := Lib.hid h
    have k1 : (48 : Int) ≤ c := by omega
    have k2 : (c : Int) ≤ 57 := by omega
    clear h a b hc
    go_enter Tryd.func64, Tryd.ntmps64
    go_wp2
    go_ret
    exact ⟨ret_i64 (by rw [H.out]), rfl⟩
  · have H := Lib.hid h
    have k1 : (97 : Int) ≤ c := by omega
    have k2 : (c : Int) ≤ 102 := by omega
    have k3 : (48 : Int) ≤ c := by omega
    have k4 : ¬ (c : Int) ≤ 57 := by omega
    clear h a b hc
    go_enter Tryd.func64, Tryd.ntmps64
    go_wp2
    go_ret
    exact ⟨ret_i64 (by rw [H.out]), rfl⟩
  · have H := Lib.hid h
    have k1 : (65 : Int) ≤ c := by omega
    have k2 : (c : Int) ≤ 70 := by omega
    have k3 : (48 : Int) ≤ c := by omega
    have k4 : ¬ (c : Int) ≤ 57 := by omega
    have k5 : ¬ (97 : Int) ≤ c := by omega
    clear h a b hc
    go_enter Tryd.func64, Tryd.ntmps64
    go_wp2
    go_ret
    exact ⟨ret_i64 (by rw [H.out]), rfl⟩
  · have H := Lib.hid h
    rcases a with a | a | a | a
    · have k3 : ¬ (48 : Int) ≤ c := by omega
      have k5 : ¬ (97 : Int) ≤ c := by omega
      have k6 : ¬ (65 : Int) ≤ c := by omega
      clear h a hc
      go_enter Tryd.func64, Tryd.ntmps64
      go_wp2
      go_ret
      exact ⟨ret_i64 (by rw [H.out]), rfl⟩
    · have k3 : (48 : Int) ≤ c := by omega
      have k4 : ¬ (c : Int) ≤ 57 := by omega
      have k5 : ¬ (97 : Int) ≤ c := by omega
      have k6 : ¬ (65 : Int) ≤ c := by omega
      clear h a hc
      go_enter Tryd.func64, Tryd.ntmps64
      go_wp2
      go_ret
      exact ⟨ret_i64 (by rw [H.out]), rfl⟩
    · have k3 : (48 : Int) ≤ c := by omega
      have k4 : ¬ (c : Int) ≤ 57 := by omega
      have k5 : ¬ (97 : Int) ≤ c := by omega
      have k6 : (65 : Int) ≤ c := by omega
      have k7 : ¬ (c : Int) ≤ 70 := by omega
      clear h a hc
      go_enter Tryd.func64, Tryd.ntmps64
      go_wp2
      go_ret
      exact ⟨ret_i64 (by rw [H.out]), rfl⟩
    · have k3 : (48 : Int) ≤ c := by omega
      have k4 : ¬ (c : Int) ≤ 57 := by omega
      have k5 : (97 : Int) ≤ c := by omega
      have k6 : (65 : Int) ≤ c := by omega
      have k7 : ¬ (c : Int) ≤ 70 := by omega
      have k8 : ¬ (c : Int) ≤ 102 := by omega
      clear h a hc
      go_enter Tryd.func64, Tryd.ntmps64
      go_wp2
      go_ret
      exact ⟨ret_i64 (by rw [H.out]), rfl⟩
end Go.Proofs.YtegmoeeeomjkgaaDoor
end
section
namespace Go.Proofs.YtegmoeeeomjkgaaDoor
open Go Go.RowKit

/-- What the document's Byte tells. -/
def rbyteV (l : List UInt8) (n : Nat) : Value :=
  if (byteB (l.drop n)).2 = 0 then .tuple #[.int .i64 (-1), .int .i64 n] else .tuple #[.int .i64 (byteB (l.drop n)).1, .int .i64 ((n + (byteB (l.drop n)).2 : Nat) : Int)]

theorem byteT_ne (b : Nat) (hb : b < 256) : (byteT b).map UInt8.ofNat ≠ [92] := by
  have h : ∀ b : Fin 256, (byteT b.val).map UInt8.ofNat ≠ [92] := by decide +kernel
  exact h ⟨b, hb⟩

/-- Where nothing is read. -/
theorem rbyte_none (l : List UInt8) (n : Nat) (hno : ∀ b', b' < 256 → ¬ matchB (l.drop n) b') (h1 : ∀ c r, l.drop n = c :: r → c.toNat ≠ 32)
    (h2 : ∀ c d x y r, l.drop n = c :: d :: x :: y :: r → c.toNat = 92 → d.toNat = 120 → hexD x.toNat ≠ none → hexD y.toNat ≠ none → False) : rbyteV l n = .tuple #[.int .i64 (-1), .int .i64 n] := by
  unfold rbyteV
  by_cases h : (byteB (l.drop n)).2 = 0
  · rw [if_pos h]
  · rcases byteB_match _ h with hm | ⟨c, r, e, hc⟩ | ⟨c, d, x, y, r, e, hc, hd, hx, hy⟩
    · exact absurd hm (hno _ (byteB_lt _).1)
    · exact absurd hc (h1 c r e)
    · exact (h2 c d x y r e hc hd hx hy).elim
theorem rbyte_blank (l : List UInt8) (n : Nat) (c : UInt8) (r : List UInt8) (e : l.drop n = c :: r) (hc : c.toNat = 32) : rbyteV l n = .tuple #[.int .i64 32, .int .i64 ((n + 1 : Nat) : Int)] := by
  unfold rbyteV
  have hs : signB 32 = false := by decide
  have hb : byteB (c :: r) = (32, 1) := by simp [byteB, hc, hs]
  rw [e, hb]; rfl
theorem rbyte_hex (l : List UInt8) (n : Nat) (c d x y : UInt8) (r : List UInt8) (a b : Nat) (e : l.drop n = c :: d :: x :: y :: r) (hc : c.toNat = 92) (hd : d.toNat = 120) (hx : hexD x.toNat = some a) (hy : hexD y.toNat = some b) :
    rbyteV l n = .tuple #[.int .i64 ((16 * a + b : Nat) : Int), .int .i64 ((n + 4 : Nat) : Int)] := by
  unfold rbyteV
  have h1 := hexD_lt _ (UInt8.toNat_lt x) a hx
  have h2 := hexD_lt _ (UInt8.toNat_lt y) b hy
  have hk : hexs 0 [x, y] = some (16 * a + b) := by rw [hexs_two, hx, hy]
  have n1 : signB 120 = false := by decide
  have hb : byteB (c :: d :: x :: y :: r) = (16 * a + b, 4) := by
    simp [byteB, escB, hc, hd, n1, hk]; omega
  rw [e, hb]; rfl

theorem drop_cons (s : ByteArray) (n : Nat) (h : n < s.size) : s.data.toList.drop n = s[n] :: s.data.toList.drop (n + 1) := by
  rw [List.drop_eq_getElem_cons (by rw [← Lib.size_eq]; exact h)]; rfl

theorem match_extract (s : ByteArray) (n b : Nat) (hb : b < 256) (hn : n + (byteT b).length ≤ s.size) : matchB (s.data.toList.drop n) b ↔ (s.extract n (n + (byteT b).length)).data.toList = (bytesStr (byteT b)).data.toList := by
  have hT : ∀ x ∈ byteT b, x < 256 := by
    have h : ∀ b : Fin 256, ∀ x ∈ byteT b.val, x < 256 := by decide +kernel
    exact h ⟨b, hb⟩
  rw [bytesStr_list, ByteArray.data_extract, Array.toList_extract, List.extract_eq_take_drop, Nat.add_sub_cancel_left]
  unfold matchB
  rw [List.prefix_iff_eq_take, ← List.map_take]
  constructor
  · intro h
    have h2 := congrArg (List.map UInt8.ofNat) h
    have h3 : (UInt8.ofNat ∘ UInt8.toNat) = id := by funext x; simp
    rw [List.map_map, h3, List.map_id] at h2
    exact h2.symm
  · intro h
    rw [h, List.map_map]
    have : (byteT b).map (UInt8.toNat ∘ UInt8.ofNat) = (byteT b).map id := by
      apply List.map_congr_left
      intro x hx
      have := hT x hx
      simp; omega
    rw [this]; simp

theorem match_len (s : ByteArray) (n b : Nat) (hn : n ≤ s.size) (h : matchB (s.data.toList.drop n) b) : n + (byteT b).length ≤ s.size := by
  unfold matchB at h
  have := h.length_le
  rw [List.length_map, List.length_drop, ← Lib.size_eq] at this
  omega

set_option maxRecDepth 100000 in
set_option maxHeartbeats 8000000 in
theorem rbyte_any (s : ByteArray) (n : Nat) (hn : n ≤ s.size) (hs : s.size ≤ 2000) (w : World) :
    Calls Tryd.prog 54 #[.string s, .int .i64 n] w fun e w' => e = .returned (rbyteV s.data.toList n) ∧ Below w.heap.size w w' := by
  have HM : Hid (∀ b, b < 256 → matchB (s.data.toList.drop n) b → n + (byteT b).length ≤ s.size ∧ (s.extract n (n + (byteT b).length)).data.toList = (bytesStr (byteT b)).data.toList ∧ rbyteV s.data.toList n = .tuple #[.int .i64 b, .int .i64 ((n + (byteT b).length : Nat) : Int)]) := by
    refine Lib.hid fun b hb h => ?_
    have h1 := match_len s n b hn h
    refine ⟨h1, (match_extract s n b hb h1).1 h, ?_⟩
    have h2 := match_byteB _ b hb h
    have h3 : (byteT b).length ≠ 0 := by
      rcases byteT_cases b with ⟨_, e⟩ | ⟨_, e⟩ | ⟨_, e⟩ | ⟨_, e⟩ | ⟨_, _, e⟩ | e <;> rw [e] <;> simp
    unfold rbyteV
    rw [h2, if_neg h3]
  have HN : Hid (∀ b, b < 256 → ¬ matchB (s.data.toList.drop n) b → s.size < n + (byteT b).length ∨ (s.extract n (n + (byteT b).length)).data.toList ≠ (bytesStr (byteT b)).data.toList) := by
    refine Lib.hid fun b hb h => ?_
    by_cases h1 : n + (byteT b).length ≤ s.size
    · exact .inr fun e => h ((match_extract s n b hb h1).2 e)
    · exact .inl (by omega)
  go_enter Tryd.func54, Tryd.ntmps54
  go_wp2
  go_loopw [6] (fun i wr => ∃ (b : Nat), i = .int .i64 b ∧ b ≤ 256 ∧ Hid (∀ b', b' < b → ¬ matchB (s.data.toList.drop n) b') ∧ Hid (Below w.heap.size w wr))
    (fun i _ => 256 - (intOf i).toNat)
  case atStart => exact ⟨0, rfl, Nat.zero_le _, fun b' h => absurd h (by omega), Below.refl _ _⟩
  case round =>
    obtain ⟨b, rfl, hb, hno, hB⟩ := hrel
    by_cases hlt : b < 256
    · have HO := fun w' => Lib.hid (rone_any b hlt w')
      have HMb := Lib.hid (HM.out b hlt)
      have HNb := Lib.hid (HN.out b hlt)
      have HNe := Lib.hid (byteT_ne b hlt)
      have hXs := bytesStr_size (byteT b)
      have hXl := Lib.hid (bytesStr_list (byteT b))
      have hlen := byteT_len b
      obtain ⟨T, hT⟩ : ∃ T, T = byteT b := ⟨_, rfl⟩
      rw [← hT] at HO HMb HNb HNe hXs hXl hlen
      obtain ⟨X, hX⟩ : ∃ X, X = bytesStr T := ⟨_, rfl⟩
      rw [← hX] at HO HMb HNb hXs hXl
      obtain ⟨m, hm⟩ : ∃ m, m = T.length := ⟨_, rfl⟩
      rw [← hm] at HMb HNb hXs hlen
      have HmT := Lib.hid hm
      clear hT hX hm
      have hcv : IntKind.u8.wrap (b : Int) = (b : Int) := by rw [IntKind.wrap_u8']; omega
      by_cases hmt : matchB (s.data.toList.drop n) b
      · obtain ⟨q1, q2, q3⟩ := HMb.out hmt
        have q4 : ((s.extract n (n + m)).toList == X.toList) = true := by
          rw [ByteArray.toList_eq, ByteArray.toList_eq, q2]; simp
        have q5 : (X.toList == [92]) = false := by
          rw [ByteArray.toList_eq, hXl.out, beq_eq_false_iff_ne]
          exact HNe.out
        have Q3 := Lib.hid q3
        have q6 : (m : Int) ≤ (s.size : Int) - (n : Int) := by omega
        clear q2 q3 HMb HNb HM HN hmt hno
        go_wp2_with fail
        refine (HO _).out.mono ?_
        rintro e w1 ⟨rfl, hB1⟩
        have HB1 := Lib.hid (hB.out.trans (hB1.mono hB.out.size))
        clear HO hB hB1
        go_wp2
        go_ret2
        exact ⟨by rw [Q3.out]; simp, HB1.out⟩
      · have hno2 : Hid (∀ b', b' < b + 1 → ¬ matchB (s.data.toList.drop n) b') := by
          refine Lib.hid fun b' h => ?_
          by_cases e : b' = b
          · subst e; exact hmt
          · exact hno.out b' (by omega)
        rcases HNb.out hmt with h | h
        · have q6 : ¬ (m : Int) ≤ (s.size : Int) - (n : Int) := by omega
          clear h HMb HNb HM HN hmt hno
          go_wp2_with fail
          refine (HO _).out.mono ?_
          rintro e w1 ⟨rfl, hB1⟩
          have HB1 := Lib.hid (hB.out.trans (hB1.mono hB.out.size))
          clear HO hB hB1
          go_wp2
          go_roundw
          case rel => exact ⟨b + 1, by go_num, by omega, hno2, HB1⟩
          case measure => simp [intOf]; omega
        · by_cases hfit : n + m ≤ s.size
          · have q4 : ((s.extract n (n + m)).toList == X.toList) = false := by
              rw [ByteArray.toList_eq, ByteArray.toList_eq, beq_eq_false_iff_ne]; exact h
            have q6 : (m : Int) ≤ (s.size : Int) - (n : Int) := by omega
            clear h HMb HNb HM HN hmt hno
            go_wp2_with fail
            refine (HO _).out.mono ?_
            rintro e w1 ⟨rfl, hB1⟩
            have HB1 := Lib.hid (hB.out.trans (hB1.mono hB.out.size))
            clear HO hB hB1
            go_wp2
            go_roundw
            case rel => exact ⟨b + 1, by go_num, by omega, hno2, HB1⟩
            case measure => simp [intOf]; omega
          · have q6 : ¬ (m : Int) ≤ (s.size : Int) - (n : Int) := by omega
            clear h HMb HNb HM HN hmt hno
            go_wp2_with fail
            refine (HO _).out.mono ?_
            rintro e w1 ⟨rfl, hB1⟩
            have HB1 := Lib.hid (hB.out.trans (hB1.mono hB.out.size))
            clear HO hB hB1
            go_wp2
            go_roundw
            case rel => exact ⟨b + 1, by go_num, by omega, hno2, HB1⟩
            case measure => simp [intOf]; omega
    · obtain rfl : b = 256 := by omega
      clear HM HN
      by_cases hns : n < s.size
      · have hcons := drop_cons s n hns
        by_cases k32 : s[n].toNat = 32
        · have HV := Lib.hid (rbyte_blank _ n _ _ hcons k32)
          have e32 : ((s[n].toNat : Int) == 32) = true := by simp; omega
          clear hcons k32 hno
          go_wp2
          go_ret2
          exact ⟨by rw [HV.out]; simp, hB.out⟩
        · have e32 : ((s[n].toNat : Int) == 32) = false := by simp; omega
          have h1 : ∀ c r, s.data.toList.drop n = c :: r → c.toNat ≠ 32 := by
            intro c r e
            rw [hcons] at e
            cases e
            exact k32
          by_cases h4 : n + 4 ≤ s.size
          · have hcons2 := drop_cons s (n + 1) (by omega)
            have hcons3 := drop_cons s (n + 1 + 1) (by omega)
            have hcons4 := drop_cons s (n + 1 + 1 + 1) (by omega)
            have g4 : (4 : Int) ≤ (s.size : Int) - (n : Int) := by omega
            have hall : s.data.toList.drop n = s[n] :: s[n + 1] :: s[n + 2] :: s[n + 3] :: s.data.toList.drop (n + 4) := by rw [hcons, hcons2, hcons3, hcons4]
            have hx1 : n + 1 < s.size := by omega
            have hx2 : n + 2 < s.size := by omega
            have hx3 : n + 3 < s.size := by omega
            clear hcons hcons2 hcons3 hcons4
            have hneg : (s[n].toNat ≠ 92 ∨ s[n + 1].toNat ≠ 120 ∨ hexD s[n + 2].toNat = none ∨ hexD s[n + 3].toNat = none) → Hid (rbyteV s.data.toList n = .tuple #[.int .i64 (-1), .int .i64 n]) := fun hh => Lib.hid (rbyte_none _ n hno.out h1 (fun c d x y r e hc hd hx hy => by
              rw [hall] at e
              cases e
              rcases hh with h | h | h | h
              · exact h hc
              · exact h hd
              · exact hx h
              · exact hy h))
            by_cases k92 : s[n].toNat = 92
            · have e92 : ((s[n].toNat : Int) == 92) = true := by simp; omega
              by_cases k120 : s[n + 1].toNat = 120
              · have e120 : ((s[n + 1].toNat : Int) == 120) = true := by simp; omega
                have hw2 : IntKind.i64.wrap ((n : Int) + 2) = (n : Int) + 2 := IntWalk.i64_in _ (by omega)
                have hw3 : IntKind.i64.wrap ((n : Int) + 3) = (n : Int) + 3 := IntWalk.i64_in _ (by omega)
                have hp2 : (n : Int) + 2 < (s.size : Int) := by omega
                have hp3 : (n : Int) + 3 < (s.size : Int) := by omega
                have hp4 : (0 : Int) ≤ (n : Int) + 2 := by omega
                have hp5 : (0 : Int) ≤ (n : Int) + 3 := by omega
                have hv2 : ((n : Int) + 2).toNat = n + 2 := by omega
                have hv3 : ((n : Int) + 3).toNat = n + 3 := by omega
                have R2 := fun w' => Lib.hid (rhex_any s[n + 2].toNat (UInt8.toNat_lt _) w')
                have R3 := fun w' => Lib.hid (rhex_any s[n + 3].toNat (UInt8.toNat_lt _) w')
                cases hx : hexD s[n + 2].toNat with
                | none =>
                  have HV := hneg (.inr (.inr (.inl hx)))
                  have z2 : hexZ s[n + 2].toNat = -1 := by unfold hexZ; rw [hx]
                  clear hall h1 hno hneg hx k92 k120 k32
                  go_wp2_with fail
                  go_region_held3 (fun _ => True) (exact trivial) (first | (go_at_call 64; (with_reducible refine (R2 _).out.mono ?_); rintro e w' ⟨rfl, rfl⟩) | (go_at_call 64; (with_reducible refine (R3 _).out.mono ?_); rintro e w' ⟨rfl, rfl⟩))
                  all_goals go_wp2
                  all_goals go_ret2
                  all_goals exact ⟨by rw [HV.out]; rfl, hB.out.drew⟩
                | some a =>
                  have ha := hexD_lt _ (UInt8.toNat_lt _) a hx
                  have z2 : hexZ s[n + 2].toNat = (a : Int) := by unfold hexZ; rw [hx]
                  have z2a : (0 : Int) ≤ (a : Int) := by omega
                  have z2b : (a : Int) < 16 := by omega
                  cases hy : hexD s[n + 3].toNat with
                  | none =>
                    have HV := hneg (.inr (.inr (.inr hy)))
                    have z3 : hexZ s[n + 3].toNat = -1 := by unfold hexZ; rw [hy]
                    clear hall h1 hno hneg hx hy k92 k120 k32 ha
                    go_wp2_with fail
                    go_region_held3 (fun _ => True) (exact trivial) (first | (go_at_call 64; (with_reducible refine (R2 _).out.mono ?_); rintro e w' ⟨rfl, rfl⟩) | (go_at_call 64; (with_reducible refine (R3 _).out.mono ?_); rintro e w' ⟨rfl, rfl⟩))
                    all_goals go_wp2
                    all_goals go_ret2
                    all_goals exact ⟨by rw [HV.out]; rfl, hB.out.drew⟩
                  | some b =>
                    have hb' := hexD_lt _ (UInt8.toNat_lt _) b hy
                    have z3 : hexZ s[n + 3].toNat = (b : Int) := by unfold hexZ; rw [hy]
                    have z3a : (0 : Int) ≤ (b : Int) := by omega
                    have z3b : (b : Int) < 16 := by omega
                    have HV := Lib.hid (rbyte_hex _ n _ _ _ _ _ a b hall k92 k120 hx hy)
                    clear hall h1 hno hneg hx hy k92 k120 k32 ha hb'
                    go_wp2_with fail
                    go_region_held3 (fun _ => True) (exact trivial) (first | (go_at_call 64; (with_reducible refine (R2 _).out.mono ?_); rintro e w' ⟨rfl, rfl⟩) | (go_at_call 64; (with_reducible refine (R3 _).out.mono ?_); rintro e w' ⟨rfl, rfl⟩))
                    all_goals go_wp2
                    all_goals go_ret2
                    all_goals exact ⟨by rw [HV.out]; simp, hB.out.drew⟩
              · have HV := hneg (.inr (.inl k120))
                have e120 : ((s[n + 1].toNat : Int) == 120) = false := by simp; omega
                clear hall h1 hno hneg k92 k120 k32
                go_wp2
                go_ret2
                exact ⟨by rw [HV.out]; rfl, hB.out⟩
            · have HV := hneg (.inl k92)
              have e92 : ((s[n].toNat : Int) == 92) = false := by simp; omega
              clear hall h1 hno hneg k92 k32
              go_wp2
              go_ret2
              exact ⟨by rw [HV.out]; rfl, hB.out⟩
          · have HV := Lib.hid (rbyte_none _ n hno.out h1 (fun c d x y r e _ _ _ _ => by
              have := congrArg List.length e
              rw [List.length_drop, ← Lib.size_eq] at this
              simp at this
              omega))
            have g4 : ¬ (4 : Int) ≤ (s.size : Int) - (n : Int) := by omega
            clear hcons k32 hno h1
            go_wp2
            go_ret2
            exact ⟨by rw [HV.out]; rfl, hB.out⟩
      · have HV := Lib.hid (rbyte_none s.data.toList n hno.out (fun c r e => by rw [List.drop_eq_nil_of_le (by rw [← Lib.size_eq]; omega)] at e; cases e) (fun c d x y r e => by rw [List.drop_eq_nil_of_le (by rw [← Lib.size_eq]; omega)] at e; cases e))
        have g4 : ¬ (4 : Int) ≤ (s.size : Int) - (n : Int) := by omega
        clear hno
        go_wp2
        go_ret2
        exact ⟨by rw [HV.out]; rfl, hB.out⟩
end Go.Proofs.YtegmoeeeomjkgaaDoor
end
section
namespace Go.Proofs.YtegmoeeeomjkgaaDoor
open Go Go.RowKit

theorem pre1_cons (c x : UInt8) (t : List UInt8) : Lib.hasPrefix (c :: t) [x] = (c == x) := by
  show ((x == c) && true) = (c == x)
  rw [Bool.and_true, Bool.eq_iff_iff, beq_iff_eq, beq_iff_eq]
  exact eq_comm
theorem pre1_nil (x : UInt8) : Lib.hasPrefix [] [x] = false := rfl

theorem items_fuel : ∀ (n : Nat) (l : List UInt8), l.length ≤ n → ∀ f u, l.length + 1 ≤ f → readItems f u l = readItems (l.length + 1) u l := by
  intro n
  induction n with
  | zero =>
    intro l hl f u hf
    have : l = [] := List.length_eq_zero_iff.1 (by omega)
    subst this
    obtain ⟨g, rfl⟩ : ∃ g, f = g + 1 := ⟨f - 1, by simp at hf; omega⟩
    rfl
  | succ n ih =>
    intro l hl f u hf
    obtain ⟨g, rfl⟩ : ∃ g, f = g + 1 := ⟨f - 1, by omega⟩
    unfold readItems
    split
    · rfl
    · split
      · rfl
      · rename_i h1 h2
        have hk := (itemB_lt l).2.2
        have hd : (l.drop (itemB l).2).length + 1 ≤ l.length := by rw [List.length_drop]; omega
        rw [ih (l.drop (itemB l).2) (by omega) g _ (by omega), ih (l.drop (itemB l).2) (by omega) l.length _ hd]

theorem items_step (l : List UInt8) (u : BS) (h93 : l ≠ [93]) (hk : (itemB l).2 ≠ 0) : readItems (l.length + 1) u l = readItems ((l.drop (itemB l).2).length + 1) (addR u (itemB l).1) (l.drop (itemB l).2) := by
  have h1 := (itemB_lt l).2.2
  have hd : (l.drop (itemB l).2).length + 1 ≤ l.length := by rw [List.length_drop]; omega
  conv => lhs; unfold readItems
  rw [if_neg h93, if_neg hk]
  exact items_fuel _ _ (Nat.le_refl _) _ _ hd
theorem items_bad (l : List UInt8) (u : BS) (h93 : l ≠ [93]) (hk : (itemB l).2 = 0) : readItems (l.length + 1) u l = none := by
  unfold readItems
  rw [if_neg h93, if_pos hk]
theorem items_end (u : BS) : readItems (([93] : List UInt8).length + 1) u [93] = some u := by
  unfold readItems; simp

theorem item_none (l : List UInt8) (h : (byteB l).2 = 0) : (itemB l).2 = 0 := by
  unfold itemB; rw [if_pos (.inl h)]; exact h
theorem item_one (l : List UInt8) (h : (byteB l).2 ≠ 0) (hp : Lib.hasPrefix (l.drop (byteB l).2) [45] = false) : itemB l = (((byteB l).1, (byteB l).1), (byteB l).2) := by
  unfold itemB; rw [if_pos (.inr hp)]
theorem item_wrong (l : List UInt8) (h : (byteB l).2 ≠ 0) (hp : Lib.hasPrefix (l.drop (byteB l).2) [45] = true) (hw : (byteB (l.drop ((byteB l).2 + 1))).2 = 0 ∨ (byteB (l.drop ((byteB l).2 + 1))).1 < (byteB l).1) : (itemB l).2 = 0 := by
  unfold itemB; rw [if_neg (by simp [h, hp]), if_pos hw]
theorem item_two (l : List UInt8) (h : (byteB l).2 ≠ 0) (hp : Lib.hasPrefix (l.drop (byteB l).2) [45] = true) (h1 : (byteB (l.drop ((byteB l).2 + 1))).2 ≠ 0) (h2 : ¬ (byteB (l.drop ((byteB l).2 + 1))).1 < (byteB l).1) :
    itemB l = (((byteB l).1, (byteB (l.drop ((byteB l).2 + 1))).1), (byteB l).2 + 1 + (byteB (l.drop ((byteB l).2 + 1))).2) := by
  unfold itemB; rw [if_neg (by simp [h, hp]), if_neg (by simp [h1, h2])]

theorem byteB_93 (t : List UInt8) : byteB (93 :: t) = (0, 0) := by
  have hs : signB 93 = true := by decide
  simp [byteB, hs]

/-- What the rest of a text says, behind its head. -/
def restS (neg : Bool) (o : Option BS) : Option BS := if neg then o.map (fun s => ~~~s) else o

theorem readS_short (l : List UInt8) (h : l.length < 2) : readS l = none := by
  unfold readS
  match l, h with
  | [], _ => rfl
  | [c], _ =>
    rw [pre1_cons]
    by_cases hc : c = 91
    · subst hc; decide
    · simp [hc]
theorem readS_head (l : List UInt8) (c : UInt8) (t : List UInt8) (e : l = c :: t) (h : c ≠ 91) : readS l = none := by
  unfold readS
  rw [e, pre1_cons]
  simp [h]
theorem readS_rest (l : List UInt8) (d : UInt8) (t : List UInt8) (e : l = 91 :: d :: t) :
    readS l = restS (d == 94) (readItems ((l.drop (if d = 94 then 2 else 1)).length + 1) 0#256 (l.drop (if d = 94 then 2 else 1))) := by
  subst e
  unfold readS
  rw [pre1_cons]
  have ht : Lib.trimPrefix (91 :: d :: t) [91] = d :: t := by unfold Lib.trimPrefix; rw [pre1_cons]; simp
  rw [ht, pre1_cons]
  by_cases hd : d = 94
  · subst hd
    have ht2 : Lib.trimPrefix (94 :: t) [94] = t := by unfold Lib.trimPrefix; rw [pre1_cons]; simp
    rw [ht2]
    simp [restS]
  · simp [restS, hd]
end Go.Proofs.YtegmoeeeomjkgaaDoor
end
section
namespace Go.Proofs.YtegmoeeeomjkgaaDoor
open Go Go.RowKit

/-- A set's ranges go up. -/
theorem rngs_le (s : BS) : ∀ k, k ≤ (bytesL s).length → ∀ r ∈ rngs ((bytesL s).take k), r.1 ≤ r.2 := by
  intro k
  induction k with
  | zero => intro _ r hr; simp [rngs] at hr
  | succ k ih =>
    intro hk r hr
    have hx : (bytesL s)[k]? = some (bytesL s)[k] := List.getElem?_eq_getElem (by omega)
    have hge := bytesL_ge s k _ hx
    have hlt := ((mem_bytesL s _).1 (List.mem_of_getElem? hx)).1
    obtain ⟨x, hx2⟩ : ∃ x, (bytesL s)[k] = x := ⟨_, rfl⟩
    rw [hx2] at hx hge hlt
    rw [List.take_add_one, hx] at hr
    have e : rngs (List.take k (bytesL s) ++ (some x).toList) = rstep (rngs ((bytesL s).take k)) x := rngs_snoc _ _
    rw [e] at hr
    have hsm : SmallR (rngs ((bytesL s).take k)) := rngs_small _ (fun y hy => ((mem_bytesL s y).1 (List.mem_of_mem_take hy)).1)
    rcases List.eq_nil_or_concat (rngs ((bytesL s).take k)) with h0 | ⟨rs', q, hcat⟩
    · rw [h0] at hr
      simp [rstep] at hr
      subst hr
      exact Nat.le_refl _
    · rw [List.concat_eq_append] at hcat
      have hk0 := rngs_take_nil _ k rs' q hcat
      have hq := ih (by omega) q (by rw [hcat]; simp)
      have hq2 := (hsm q (by rw [hcat]; simp)).2
      rw [hcat, rstep_other rs' q x hq2 hlt (by omega)] at hr
      split at hr
      · simp at hr
        rcases hr with hr | rfl
        · exact ih (by omega) r (by rw [hcat]; simp [hr])
        · simp; omega
      · simp at hr
        rcases hr with hr | rfl | rfl
        · exact ih (by omega) r (by rw [hcat]; simp [hr])
        · exact hq
        · exact Nat.le_refl _
theorem rngs_up (s : BS) : ∀ r ∈ rngs (bytesL s), r.1 ≤ r.2 := by
  have h := rngs_le s (bytesL s).length (Nat.le_refl _)
  rw [List.take_length] at h
  exact h

theorem ba_assoc (a b c : ByteArray) : (a ++ b) ++ c = a ++ (b ++ c) := by
  apply ByteArray.ext; simp [Array.append_assoc]

set_option maxRecDepth 100000 in
set_option maxHeartbeats 8000000 in
theorem rtext_any (s : BS) (w : World) :
    Calls Tryd.prog 39 #[vset s] w fun e w' => e = .returned (.string (bytesStr (textS s))) ∧ Below w.heap.size w w' := by
  have HTX : Hid (textS s = if 128 < (bytesL s).length then [91, 94] ++ rangesT (rngs (bytesL (~~~s))) ++ [93] else [91] ++ rangesT (rngs (bytesL s)) ++ [93]) := by
    refine Lib.hid ?_
    unfold textS; rw [cnt_len]
  have K1 := rbytes_any s
  have K2 := rnot_any s
  obtain ⟨ns, hns⟩ : ∃ ns, ns = ~~~s := ⟨_, rfl⟩
  rw [← hns] at K2 HTX
  clear hns
  obtain ⟨N, hN⟩ : ∃ N, N = (bytesL s).length := ⟨_, rfl⟩
  rw [← hN] at K1 HTX
  obtain ⟨TX, hTX⟩ : ∃ TX, TX = textS s := ⟨_, rfl⟩
  rw [← hTX] at HTX ⊢
  clear hTX
  unfold vset at K1 K2
  have H1 := fun w' => Lib.hid (K1 w')
  have H2 := fun w' => Lib.hid (K2 w')
  clear K1 K2
  have hzN : (bytesL s).length = N := hN.symm
  have HY : ∀ {W : World} {b : Nat} {v : Value}, W.ownsRow b 5 1 v N ((bytesL s).map byteV) → ∃ a c, v = .slice a N c := by
    intro W b v h
    rw [hN] at h ⊢
    obtain ⟨a, c, e, _⟩ := owned_rowY h
    exact ⟨a, c, e⟩
  have HYY := @HY
  clear HY hN hzN
  unfold vset
  go_enter Tryd.func39, Tryd.ntmps39
  go_wp2_with fail
  refine (H1 _).out.mono ?_
  rintro e w1 ⟨v, rfl, hown, hB1⟩
  obtain ⟨a, c, rfl⟩ := HYY hown
  have hA1 := Lib.hid ((Blk.new w 29 (cset s)).below hB1 (by simp))
  have hBB := Lib.hid (((Below.refl _ w).alloc (Nat.le_refl _) (.cells (cset s) 29)).trans (hB1.mono (by simp)))
  clear hown hB1 H1 HYY
  have c0 : w1.cell? ⟨w.heap.size, 0, none⟩ = some (.int .u64 (wdI s 0)) := hA1.out.cell 0
  have c1 : w1.cell? ⟨w.heap.size, 1, none⟩ = some (.int .u64 (wdI s 1)) := hA1.out.cell 1
  have c2 : w1.cell? ⟨w.heap.size, 2, none⟩ = some (.int .u64 (wdI s 2)) := hA1.out.cell 2
  have c3 : w1.cell? ⟨w.heap.size, 3, none⟩ = some (.int .u64 (wdI s 3)) := hA1.out.cell 3
  go_upto_if 9 with fail
  go_cut [3] (fun s3 wx => ∃ (su : BS) (hd : List Nat), s3 = .string (bytesStr hd) ∧ hd.length ≤ 2 ∧ Hid (TX = hd ++ rangesT (rngs (bytesL su)) ++ [93]) ∧ Hid (Blk wx w.heap.size 29 (cset su)) ∧ Hid (Below w.heap.size w wx))
  case first =>
    by_cases hbig : 128 < N
    · have hb' : (128 : Int) < N := by omega
      have HT2 : Hid (TX = [91, 94] ++ rangesT (rngs (bytesL ns)) ++ [93]) := Lib.hid (by rw [HTX.out, if_pos hbig])
      clear HTX
      go_wp2_with fail
      refine (H2 _).out.mono ?_
      rintro e w2 ⟨rfl, hB2⟩
      have hA2 := Lib.hid (hA1.out.below hB2 hA1.out.lt)
      have hBC := Lib.hid (hBB.out.trans (hB2.mono hBB.out.size))
      clear hA1 hBB hB2 H2 c0 c1 c2 c3
      have c0 : w2.cell? ⟨w.heap.size, 0, none⟩ = some (.int .u64 (wdI s 0)) := hA2.out.cell 0
      have c1 : w2.cell? ⟨w.heap.size, 1, none⟩ = some (.int .u64 (wdI s 1)) := hA2.out.cell 1
      have c2 : w2.cell? ⟨w.heap.size, 2, none⟩ = some (.int .u64 (wdI s 2)) := hA2.out.cell 2
      have c3 : w2.cell? ⟨w.heap.size, 3, none⟩ = some (.int .u64 (wdI s 3)) := hA2.out.cell 3
      have fz : ∀ i, w2.frozen? ⟨w.heap.size, i, none⟩ = false := hA2.out.frozen
      go_wp2_with fail
      go_meet
      exact ⟨ns, [91, 94], rfl, by simp, HT2, hA2.out.set4 _ _ _ _, below_set4 hBC.out (Nat.le_refl _) _ _ _ _⟩
    · have hb' : ¬ (128 : Int) < N := by omega
      have HT2 : Hid (TX = [91] ++ rangesT (rngs (bytesL s)) ++ [93]) := Lib.hid (by rw [HTX.out, if_neg hbig])
      clear HTX
      go_wp2_with fail
      go_meet
      exact ⟨s, [91], rfl, by simp, HT2, hA1, hBB⟩
  case rest =>
    obtain ⟨wb, rfl⟩ : ∃ wb : World, wb = wc := ⟨_, rfl⟩
    obtain ⟨su, hd, rfl, hhd, HT2, hA, hB⟩ := hcut
    clear hA1 hBB H2 HTX c0 c1 c2 c3
    have K3 := rranges_any su
    have hrl := rngs_length (bytesL su)
    have hbl := length_bytesL su
    have hsm := rngs_small (bytesL su) (fun x hx => ((mem_bytesL su x).1 hx).1)
    have hup := rngs_up su
    obtain ⟨R, hR⟩ : ∃ R, R = rngs (bytesL su) := ⟨_, rfl⟩
    rw [← hR] at K3 hrl hsm hup HT2
    have hR2 : R.length ≤ 256 := by omega
    clear hR hrl hbl
    have HSM := Lib.hid hsm
    have HUP := Lib.hid hup
    clear hsm hup
    unfold vset at K3
    have H3 := fun w' => Lib.hid (K3 w')
    clear K3
    have c0 : wb.cell? ⟨w.heap.size, 0, none⟩ = some (.int .u64 (wdI su 0)) := hA.out.cell 0
    have c1 : wb.cell? ⟨w.heap.size, 1, none⟩ = some (.int .u64 (wdI su 1)) := hA.out.cell 1
    have c2 : wb.cell? ⟨w.heap.size, 2, none⟩ = some (.int .u64 (wdI su 2)) := hA.out.cell 2
    have c3 : wb.cell? ⟨w.heap.size, 3, none⟩ = some (.int .u64 (wdI su 3)) := hA.out.cell 3
    go_wp2_with fail
    refine (H3 _).out.mono ?_
    rintro e w5 ⟨v, rfl, hown, hB5⟩
    obtain ⟨ar, cr, rfl, hrow⟩ := owned_rowR hown
    have HR := Lib.hid hrow
    have HB := Lib.hid (hB.out.trans (hB5.mono hB.out.size))
    clear hown hrow hB5 hA hB H3 c0 c1 c2 c3
    have hO0 := bytesStr_size hd
    obtain ⟨O0, hO0e⟩ : ∃ O0, O0 = bytesStr hd := ⟨_, rfl⟩
    have hO0s : O0.size ≤ 2 := by rw [hO0e, hO0]; exact hhd
    have HO0 := Lib.hid hO0e
    rw [← hO0e]
    clear hO0e hO0
    go_wp2
    go_loopw [3, 5] (fun q i wr => ∃ (k : Nat) (O : ByteArray), i = .int .i64 k ∧ q = .string O ∧ k ≤ R.length ∧ O.size ≤ 9 * k + 2 ∧ Hid (O = bytesStr (hd ++ rangesT (R.take k))) ∧ Hid (Below w5.heap.size w5 wr))
      (fun _ i _ => R.length - (intOf i).toNat)
    case atStart => exact ⟨0, O0, rfl, rfl, Nat.zero_le _, by omega, by refine Lib.hid ?_; rw [HO0.out]; simp [rangesT], Below.refl _ _⟩
    case round =>
      clear HO0 hO0s
      obtain ⟨k, O, rfl, rfl, hk, hOs, hO, hW⟩ := hrel
      by_cases hlt : k < R.length
      · have HX : Hid (R[k]? = some R[k]) := Lib.hid (List.getElem?_eq_getElem hlt)
        obtain ⟨x1, x2⟩ := HSM.out R[k] (List.getElem_mem hlt)
        have x3 := HUP.out R[k] (List.getElem_mem hlt)
        obtain ⟨x, hx⟩ : ∃ x, R[k] = x := ⟨_, rfl⟩
        rw [hx] at HX x1 x2 x3
        clear hx
        obtain ⟨f, t⟩ := x
        dsimp only at x1 x2 x3
        have HL : Hid (∀ X, X = rangeT (f, t) → O ++ bytesStr X = bytesStr (hd ++ rangesT (R.take (k + 1)))) := by
          refine Lib.hid fun X hX => ?_
          rw [hO.out, hX, bytesStr_append, List.take_add_one, HX.out]
          show bytesStr (hd ++ rangesT (R.take k) ++ rangeT (f, t)) = bytesStr (hd ++ rangesT (R.take k ++ [(f, t)]))
          rw [rangesT_snoc, List.append_assoc]
        obtain ⟨b', off, hab, e1, e2⟩ := HR.out k _ HX.out
        have r1 : wr.cell? ⟨b', off + k * 2, none⟩ = some (.int .u8 f) := (hW.out.cell (p := ⟨b', _, none⟩) (lt_of_cell e1)).trans e1
        have r2 : wr.cell? ⟨b', off + k * 2 + 1, none⟩ = some (.int .u8 t) := (hW.out.cell (p := ⟨b', _, none⟩) (lt_of_cell e1)).trans e2
        subst hab
        have O1 := fun w' => Lib.hid (rone_any f x1 w')
        have O2 := fun w' => Lib.hid (rone_any t x2 w')
        have s1 := bytesStr_size (byteT f)
        have s2 := bytesStr_size (byteT t)
        have l1 := byteT_len f
        have l2 := byteT_len t
        obtain ⟨F1, hF1⟩ : ∃ F1, F1 = bytesStr (byteT f) := ⟨_, rfl⟩
        obtain ⟨F2, hF2⟩ : ∃ F2, F2 = bytesStr (byteT t) := ⟨_, rfl⟩
        rw [← hF1] at O1 s1
        rw [← hF2] at O2 s2
        have hF1s : F1.size ≤ 4 := by omega
        have hF2s : F2.size ≤ 4 := by omega
        have HF1 := Lib.hid hF1
        have HF2 := Lib.hid hF2
        clear hF1 hF2 s1 s2 l1 l2
        go_wp2_with fail
        refine (O1 _).out.mono ?_
        rintro e w6 ⟨rfl, hB6⟩
        have q1 : w6.cell? ⟨b', off + k * 2, none⟩ = some (.int .u8 f) := (hB6.cell (p := ⟨b', _, none⟩) (lt_of_cell r1)).trans r1
        have q2 : w6.cell? ⟨b', off + k * 2 + 1, none⟩ = some (.int .u8 t) := (hB6.cell (p := ⟨b', _, none⟩) (lt_of_cell r1)).trans r2
        have hW6 := Lib.hid (hW.out.trans (hB6.mono hW.out.size))
        clear hB6 hW r1 r2 O1
        have hw1 : IntKind.i64.wrap (t : Int) = (t : Int) := IntWalk.i64_in _ (by omega)
        have hw2 : IntKind.i64.wrap (f : Int) = (f : Int) := IntWalk.i64_in _ (by omega)
        have hw3 : IntKind.i64.wrap ((t : Int) - (f : Int)) = (t : Int) - (f : Int) := IntWalk.i64_in _ (by omega)
        have hOb : O.size ≤ 3000 := by omega
        by_cases heq : f = t
        · subst heq
          have HLL : Hid (O ++ F1 = bytesStr (hd ++ rangesT (R.take (k + 1)))) := by
            refine Lib.hid ?_
            rw [HF1.out]
            refine HL.out _ ?_
            unfold rangeT; simp
          clear HL
          go_wp2_with fail
          go_region
          go_wp2_with fail
          go_region
          go_wp2
          go_roundw
          case rel => exact ⟨k + 1, O ++ F1, by go_num, rfl, by omega, by rw [ByteArray.size_append]; omega, HLL, hW6.out.drew.drew⟩
          case measure => simp [intOf]; omega
        · by_cases hgt : 1 < t - f
          · have k1 : decide ((1 : Int) < (t : Int) - (f : Int)) = true := by simp; omega
            have k2 : ((t : Int) != (f : Int)) = true := by simp; omega
            have HLL : Hid (((O ++ F1) ++ ⟨#[45]⟩) ++ F2 = bytesStr (hd ++ rangesT (R.take (k + 1)))) := by
              refine Lib.hid ?_
              rw [HF1.out, HF2.out, ba_assoc, ba_assoc]
              rw [show (⟨#[45]⟩ : ByteArray) = bytesStr [45] from rfl, bytesStr_append, bytesStr_append]
              refine HL.out _ ?_
              unfold rangeT
              rw [if_neg heq, if_pos (by simp; omega)]
              simp
            have hz : (⟨#[45]⟩ : ByteArray).size = 1 := rfl
            clear HL
            go_wp2_with fail
            go_region
            go_wp2_with fail
            go_region
            go_wp2_with fail
            refine (O2 _).out.mono ?_
            rintro e w7 ⟨rfl, hB7⟩
            have hW7 := Lib.hid (hW6.out.drew.drew.trans (hB7.mono hW6.out.size))
            clear hB7 hW6 q1 q2 O2
            go_wp2
            go_roundw
            case rel => exact ⟨k + 1, _, by go_num, rfl, by omega, by rw [ByteArray.size_append, ByteArray.size_append, ByteArray.size_append, hz]; omega, HLL, hW7⟩
            case measure => simp [intOf]; omega
          · have k1 : decide ((1 : Int) < (t : Int) - (f : Int)) = false := by simp; omega
            have k2 : ((t : Int) != (f : Int)) = true := by simp; omega
            have HLL : Hid ((O ++ F1) ++ F2 = bytesStr (hd ++ rangesT (R.take (k + 1)))) := by
              refine Lib.hid ?_
              rw [HF1.out, HF2.out, ba_assoc, bytesStr_append]
              refine HL.out _ ?_
              unfold rangeT
              rw [if_neg heq, if_neg (by simp; omega)]
            clear HL
            go_wp2_with fail
            go_region
            go_wp2_with fail
            go_region
            go_wp2_with fail
            refine (O2 _).out.mono ?_
            rintro e w7 ⟨rfl, hB7⟩
            have hW7 := Lib.hid (hW6.out.drew.drew.trans (hB7.mono hW6.out.size))
            clear hB7 hW6 q1 q2 O2
            go_wp2
            go_roundw
            case rel => exact ⟨k + 1, _, by go_num, rfl, by omega, by rw [ByteArray.size_append, ByteArray.size_append]; omega, HLL, hW7⟩
            case measure => simp [intOf]; omega
      · obtain rfl : k = R.length := by omega
        rw [List.take_length] at hO
        have HE : Hid (O ++ bytesStr [93] = bytesStr TX) := by
          refine Lib.hid ?_
          rw [hO.out, bytesStr_append, HT2.out]
        have hz : (bytesStr [93]).size = 1 := bytesStr_size [93]
        go_wp2
        go_ret
        exact ⟨by rw [← HE.out]; rfl, HB.out.trans (hW.out.mono HB.out.size)⟩
end Go.Proofs.YtegmoeeeomjkgaaDoor
end
section
namespace Go.Proofs.YtegmoeeeomjkgaaDoor
open Go Go.RowKit

/-- Is a number in one of the ranges? -/
def cov (rs : List (Nat × Nat)) (j : Nat) : Bool := rs.any fun r => decide (r.1 ≤ j ∧ j ≤ r.2)
def OkR (rs : List (Nat × Nat)) : Prop := ∀ r ∈ rs, r.1 ≤ r.2 ∧ r.2 < 256

theorem makeR_cov (rs : List (Nat × Nat)) : ∀ s : BS, OkR rs → ∃ u, makeR s rs = some u ∧ ∀ j, u.getLsbD j = (s.getLsbD j || cov rs j) := by
  induction rs with
  | nil => exact fun s _ => ⟨s, rfl, by simp [cov]⟩
  | cons r rs ih =>
    intro s h
    obtain ⟨u, h1, h2⟩ := ih (addR s r) (fun x hx => h x (by simp [hx]))
    have hr := h r (by simp)
    refine ⟨u, by rw [makeR, if_neg (by omega)]; exact h1, fun j => ?_⟩
    rw [h2, addR_bit _ _ _ hr.2, Bool.or_assoc]
    rfl

theorem cov_snoc (rs : List (Nat × Nat)) (r : Nat × Nat) (j : Nat) : cov (rs ++ [r]) j = (cov rs j || decide (r.1 ≤ j ∧ j ≤ r.2)) := by simp [cov]

theorem rngs_cov (s : BS) : ∀ k, k ≤ (bytesL s).length → ∀ j, cov (rngs ((bytesL s).take k)) j = decide (j ∈ (bytesL s).take k) := by
  intro k
  induction k with
  | zero => intro _ j; simp [rngs, cov]
  | succ k ih =>
    intro hk j
    have hx : (bytesL s)[k]? = some (bytesL s)[k] := List.getElem?_eq_getElem (by omega)
    have hge := bytesL_ge s k _ hx
    have hlt := ((mem_bytesL s _).1 (List.mem_of_getElem? hx)).1
    have hup := rngs_le s k (by omega)
    have hi := ih (by omega) j
    obtain ⟨x, hx2⟩ : ∃ x, (bytesL s)[k] = x := ⟨_, rfl⟩
    rw [hx2] at hx hge hlt
    rw [List.take_add_one, hx]
    have e : rngs (List.take k (bytesL s) ++ (some x).toList) = rstep (rngs ((bytesL s).take k)) x := rngs_snoc _ _
    rw [e]
    have hm : decide (j ∈ List.take k (bytesL s) ++ (some x).toList) = (decide (j ∈ List.take k (bytesL s)) || decide (j = x)) := by simp
    rw [hm, ← hi]
    have hsm : SmallR (rngs ((bytesL s).take k)) := rngs_small _ (fun y hy => ((mem_bytesL s y).1 (List.mem_of_mem_take hy)).1)
    rcases List.eq_nil_or_concat (rngs ((bytesL s).take k)) with h0 | ⟨rs', q, hcat⟩
    · rw [h0]
      simp only [rstep, List.getLast?_nil]
      have : decide (x ≤ j ∧ j ≤ x) = decide (j = x) := by rw [decide_eq_decide]; omega
      simp only [cov, List.any_cons, List.any_nil, Bool.or_false, Bool.false_or, this]
    · rw [List.concat_eq_append] at hcat
      have hk0 := rngs_take_nil _ k rs' q hcat
      have hq := hup q (by rw [hcat]; simp)
      have hq2 := (hsm q (by rw [hcat]; simp)).2
      rw [hcat, rstep_other rs' q x hq2 hlt (by omega)]
      split
      · rename_i hqx
        rw [cov_snoc, cov_snoc, Bool.or_assoc]
        congr 1
        rw [← Bool.decide_or, decide_eq_decide]
        simp only
        omega
      · rw [cov_snoc (rs' ++ [q])]
        congr 1
        rw [decide_eq_decide]
        simp only
        omega

theorem rngs_ok (s : BS) : OkR (rngs (bytesL s)) := fun r hr => ⟨rngs_up s r hr, (rngs_small (bytesL s) (fun y hy => ((mem_bytesL s y).1 hy).1) r hr).2⟩

/-- A set is made of its ranges. -/
theorem make_rngs (s : BS) : makeR 0#256 (rngs (bytesL s)) = some s := by
  obtain ⟨u, h1, h2⟩ := makeR_cov _ 0#256 (rngs_ok s)
  rw [h1]
  congr 1
  apply BitVec.eq_of_getLsbD_eq
  intro j hj
  have h3 := rngs_cov s (bytesL s).length (Nat.le_refl _) j
  rw [List.take_length] at h3
  rw [h2, h3]
  have : decide (j ∈ bytesL s) = s.getLsbD j := by
    rw [Bool.eq_iff_iff, decide_eq_true_iff, mem_bytesL]
    simp [hj]
  rw [this]
  simp

theorem byteT_small : ∀ b : Fin 256, (∀ x ∈ byteT b.val, x < 256) ∧ byteT b.val ≠ [] ∧ (byteT b.val).head? ≠ some 45 ∧ (byteT b.val).head? ≠ some 93 ∧ (byteT b.val).head? ≠ some 94 := by decide +kernel

def u8s (l : List Nat) : List UInt8 := l.map UInt8.ofNat
theorem u8s_append (l m : List Nat) : u8s (l ++ m) = u8s l ++ u8s m := by simp [u8s]
theorem u8s_back (l : List Nat) (h : ∀ x ∈ l, x < 256) : (u8s l).map UInt8.toNat = l := by
  unfold u8s
  rw [List.map_map]
  conv => rhs; rw [← List.map_id l]
  apply List.map_congr_left
  intro x hx
  have := h x hx
  simp
  omega

theorem match_text (b : Nat) (hb : b < 256) (r : List UInt8) : matchB (u8s (byteT b) ++ r) b := by
  unfold matchB
  rw [List.map_append, u8s_back _ (byteT_small ⟨b, hb⟩).1]
  exact List.prefix_append _ _
theorem byteB_text (b : Nat) (hb : b < 256) (r : List UInt8) : byteB (u8s (byteT b) ++ r) = (b, (byteT b).length) := match_byteB _ b hb (match_text b hb r)

/-- A text that begins with no -, no ] and no ^. -/
def Mild (l : List UInt8) : Prop := ∃ c t, l = c :: t ∧ c ≠ 45 ∧ c ≠ 94
theorem byteT_head (b : Nat) (hb : b < 256) : ∃ c t, byteT b = c :: t ∧ c < 256 ∧ c ≠ 45 ∧ c ≠ 93 ∧ c ≠ 94 := by
  have h := byteT_small ⟨b, hb⟩
  simp only at h
  cases e : byteT b with
  | nil => exact absurd e h.2.1
  | cons c t =>
    rw [e] at h
    refine ⟨c, t, rfl, h.1 c (by simp), ?_, ?_, ?_⟩
    · intro k; exact h.2.2.1 (by rw [k]; rfl)
    · intro k; exact h.2.2.2.1 (by rw [k]; rfl)
    · intro k; exact h.2.2.2.2 (by rw [k]; rfl)
theorem ofNat_ne {c k : Nat} (hc : c < 256) (hk : k < 256) (h : c ≠ k) : UInt8.ofNat c ≠ UInt8.ofNat k := by
  intro e
  apply h
  have := congrArg UInt8.toNat e
  simp at this
  omega
theorem mild_byte (b : Nat) (hb : b < 256) (r : List UInt8) : Mild (u8s (byteT b) ++ r) ∧ u8s (byteT b) ++ r ≠ [93] := by
  obtain ⟨c, t, e, hc, h1, h2, h3⟩ := byteT_head b hb
  rw [e]
  refine ⟨⟨UInt8.ofNat c, u8s t ++ r, by simp [u8s], ofNat_ne hc (by decide) h1, ofNat_ne hc (by decide) h3⟩, ?_⟩
  intro k
  simp [u8s] at k
  exact ofNat_ne hc (by decide : 93 < 256) h2 k.1
theorem Mild.not45 {l : List UInt8} (h : Mild l) : Lib.hasPrefix l [45] = false := by
  obtain ⟨c, t, rfl, h1, _⟩ := h
  rw [pre1_cons]; simp [h1]
theorem Mild.not94 {l : List UInt8} (h : Mild l) : Lib.hasPrefix l [94] = false := by
  obtain ⟨c, t, rfl, _, h1⟩ := h
  rw [pre1_cons]; simp [h1]

theorem rangeT_head (r : Nat × Nat) : ∃ m, rangeT r = byteT r.1 ++ m := by
  unfold rangeT
  split
  · exact ⟨[], by simp⟩
  · split
    · exact ⟨_, by rw [List.append_assoc]⟩
    · exact ⟨_, rfl⟩
theorem mild_rest (rs : List (Nat × Nat)) (h : OkR rs) : Mild (u8s (rangesT rs ++ [93])) := by
  cases rs with
  | nil => exact ⟨93, [], rfl, by decide, by decide⟩
  | cons r rs =>
    obtain ⟨m, hm⟩ := rangeT_head r
    have hr := h r (by simp)
    have e : u8s (rangesT (r :: rs) ++ [93]) = u8s (byteT r.1) ++ (u8s m ++ u8s (rangesT rs ++ [93])) := by
      simp [rangesT, hm, u8s]
    rw [e]
    exact (mild_byte r.1 (by omega) _).1

theorem drop_text (b : Nat) (r : List UInt8) : (u8s (byteT b) ++ r).drop (byteT b).length = r := by
  have : (u8s (byteT b)).length = (byteT b).length := by simp [u8s]
  rw [← this, List.drop_left]
theorem drop_text1 (b : Nat) (c : UInt8) (r : List UInt8) : (u8s (byteT b) ++ c :: r).drop ((byteT b).length + 1) = r := by
  rw [← List.drop_drop, drop_text]; rfl
theorem byteT_pos (b : Nat) (hb : b < 256) : (byteT b).length ≠ 0 := by
  obtain ⟨c, t, e, _⟩ := byteT_head b hb
  rw [e]; simp

/-- One byte's item, what follows being no -. -/
theorem item_byte (b : Nat) (hb : b < 256) (r : List UInt8) (hr : Mild r) : itemB (u8s (byteT b) ++ r) = ((b, b), (byteT b).length) := by
  have h := byteB_text b hb r
  rw [item_one]
  · rw [h]
  · rw [h]; exact byteT_pos b hb
  · rw [h]; show Lib.hasPrefix ((u8s (byteT b) ++ r).drop (byteT b).length) [45] = false
    rw [drop_text]; exact hr.not45
theorem item_pair (b c : Nat) (hb : b < 256) (hc : c < 256) (h : b ≤ c) (r : List UInt8) : itemB (u8s (byteT b) ++ 45 :: (u8s (byteT c) ++ r)) = ((b, c), (byteT b).length + 1 + (byteT c).length) := by
  have h1 := byteB_text b hb (45 :: (u8s (byteT c) ++ r))
  have h2 := byteB_text c hc r
  rw [item_two]
  · rw [h1]
    simp only
    rw [drop_text1, h2]
  · rw [h1]; exact byteT_pos b hb
  · rw [h1]; show Lib.hasPrefix ((u8s (byteT b) ++ 45 :: (u8s (byteT c) ++ r)).drop (byteT b).length) [45] = true
    rw [drop_text, pre1_cons]; simp
  · rw [h1]; simp only; rw [drop_text1, h2]; exact byteT_pos c hc
  · rw [h1]; simp only; rw [drop_text1, h2]; simp only; omega

theorem addR_two (s : BS) (a : Nat) (ha : a + 1 < 256) : addR (addR s (a, a)) (a + 1, a + 1) = addR s (a, a + 1) := by
  apply BitVec.eq_of_getLsbD_eq
  intro j hj
  rw [addR_bit _ _ _ (by simpa using ha), addR_bit _ _ _ (by simp; omega), addR_bit _ _ _ (by simpa using ha), Bool.or_assoc]
  congr 1
  rw [← Bool.decide_or, decide_eq_decide]
  simp only
  omega

theorem items_text (rs : List (Nat × Nat)) : ∀ s : BS, OkR rs → readItems ((u8s (rangesT rs ++ [93])).length + 1) s (u8s (rangesT rs ++ [93])) = makeR s rs := by
  induction rs with
  | nil => intro s _; exact items_end s
  | cons r rs ih =>
    intro s h
    have hr := h r (by simp)
    have hrs : OkR rs := fun x hx => h x (by simp [hx])
    have hm := mild_rest rs hrs
    have e : u8s (rangesT (r :: rs) ++ [93]) = u8s (rangeT r) ++ u8s (rangesT rs ++ [93]) := by simp [rangesT, u8s]
    rw [e, makeR, if_neg (by omega)]
    have IH := ih
    generalize hR : u8s (rangesT rs ++ [93]) = R at *
    clear hR
    obtain ⟨a, b⟩ := r
    simp only at hr
    unfold rangeT
    simp only
    split
    · rename_i hab
      subst hab
      have hi := item_byte a (by omega) R hm
      rw [items_step _ _ (mild_byte a (by omega) R).2 (by rw [hi]; exact byteT_pos a (by omega)), hi]
      simp only
      rw [drop_text]
      exact IH _ hrs
    · split
      · have e2 : u8s (byteT a ++ [45] ++ byteT b) ++ R = u8s (byteT a) ++ 45 :: (u8s (byteT b) ++ R) := by simp [u8s]
        rw [e2]
        have hi := item_pair a b (by omega) (by omega) (by omega) R
        rw [items_step _ _ (mild_byte a (by omega) _).2 (by rw [hi]; simp), hi]
        simp only
        rw [← List.drop_drop, drop_text1, drop_text]
        exact IH _ hrs
      · have hb : b = a + 1 := by omega
        subst hb
        have e2 : u8s (byteT a ++ byteT (a + 1)) ++ R = u8s (byteT a) ++ (u8s (byteT (a + 1)) ++ R) := by simp [u8s]
        rw [e2]
        have hi := item_byte a (by omega) _ (mild_byte (a + 1) (by omega) R).1
        rw [items_step _ _ (mild_byte a (by omega) _).2 (by rw [hi]; exact byteT_pos a (by omega)), hi]
        simp only
        rw [drop_text]
        have hj := item_byte (a + 1) (by omega) R hm
        rw [items_step _ _ (mild_byte (a + 1) (by omega) R).2 (by rw [hj]; exact byteT_pos (a + 1) (by omega)), hj]
        simp only
        rw [drop_text, IH _ hrs, addR_two _ _ (by omega)]

/-- A set is read as it was told. -/
theorem read_text (s : BS) : readS (u8s (textS s)) = some s := by
  unfold textS
  split
  · have e : u8s ([91, 94] ++ rangesT (rngs (bytesL (~~~s))) ++ [93]) = 91 :: 94 :: u8s (rangesT (rngs (bytesL (~~~s))) ++ [93]) := by simp [u8s]
    rw [readS_rest _ 94 _ e, e]
    simp only [if_true, List.drop_succ_cons, List.drop_zero]
    rw [items_text _ _ (rngs_ok _), make_rngs]
    simp [restS]
  · have e : u8s ([91] ++ rangesT (rngs (bytesL s)) ++ [93]) = 91 :: u8s (rangesT (rngs (bytesL s)) ++ [93]) := by simp [u8s]
    obtain ⟨c, t, hc, h1, h2⟩ := mild_rest (rngs (bytesL s)) (rngs_ok s)
    rw [e, readS_rest _ c t (by rw [hc]), if_neg h2]
    simp only [List.drop_succ_cons, List.drop_zero]
    rw [items_text _ _ (rngs_ok _), make_rngs]
    simp [restS, h2]

/-! ### parts -/
theorem part_in {l : List BS} {p s : BS} (h : Part l p) (hs : s ∈ l) : p &&& s = p ∨ p &&& s = 0#256 := by
  obtain ⟨x, hx, hb⟩ := h
  by_cases hx2 : s.getLsbD x = true
  · left
    apply BitVec.eq_of_getLsbD_eq
    intro j hj
    rw [BitVec.getLsbD_and, hb j hj]
    cases hj2 : sameB l j x with
    | false => rfl
    | true => rw [(sameB_true.1 hj2) s hs, hx2]; rfl
  · right
    apply BitVec.eq_of_getLsbD_eq
    intro j hj
    rw [BitVec.getLsbD_and, hb j hj]
    cases hj2 : sameB l j x with
    | false => simp
    | true => rw [(sameB_true.1 hj2) s hs]; simp [hx2]

/-- How many bytes the first parts have together. -/
def cntTo (L : List BS) (k : Nat) : Nat := ((L.take k).map cnt).sum
theorem cntTo_succ (L : List BS) (k : Nat) (x : BS) (h : L[k]? = some x) : cntTo L (k + 1) = cntTo L k + cnt x := by
  unfold cntTo
  rw [List.take_add_one, h]
  simp
theorem cnt_256 (s : BS) : cnt s ≤ 256 := by rw [cnt_len]; exact length_bytesL s
theorem cntTo_le (L : List BS) (k : Nat) : cntTo L k ≤ 256 * k := by
  induction k with
  | zero => simp [cntTo]
  | succ k ih =>
    by_cases h : k < L.length
    · rw [cntTo_succ L k L[k] (List.getElem?_eq_getElem h)]
      have := cnt_256 L[k]
      omega
    · unfold cntTo at *
      rw [List.take_of_length_le (by omega)] at *
      omega

theorem nodup_flat {α β : Type} {f : α → List β} : ∀ {L : List α}, (∀ x ∈ L, (f x).Nodup) → L.Pairwise (fun x y => ∀ b, b ∈ f x → b ∉ f y) → (L.flatMap f).Nodup
  | [], _, _ => by simp
  | x :: L, h, hp => by
    rw [List.flatMap_cons, List.nodup_append]
    rw [List.pairwise_cons] at hp
    refine ⟨h x (by simp), nodup_flat (fun y hy => h y (by simp [hy])) hp.2, ?_⟩
    intro a ha b hb e
    subst e
    obtain ⟨y, hy, hby⟩ := List.mem_flatMap.1 hb
    exact hp.1 y hy a ha hby
theorem flat_len (L : List BS) : (L.flatMap bytesL).length = (L.map cnt).sum := by
  induction L with
  | nil => rfl
  | cons x L ih => rw [List.flatMap_cons, List.length_append, ih, List.map_cons, List.sum_cons, cnt_len]

theorem nodup_sub_len {α : Type} [DecidableEq α] : ∀ {l m : List α}, l.Nodup → (∀ x ∈ l, x ∈ m) → l.length ≤ m.length
  | [], _, _, _ => Nat.zero_le _
  | x :: l, m, hn, hs => by
    rw [List.nodup_cons] at hn
    have hx := hs x (by simp)
    have h := nodup_sub_len (m := m.erase x) hn.2 (fun y hy => by
      have hne : y ≠ x := fun e => hn.1 (e ▸ hy)
      exact (List.mem_erase_of_ne hne).2 (hs y (by simp [hy])))
    rw [List.length_erase_of_mem hx] at h
    have := List.length_pos_of_mem hx
    simp only [List.length_cons]
    omega

theorem bytesL_nodup (s : BS) : (bytesL s).Nodup := (List.nodup_range' (s := 0) (n := 256) (step := 1)).filter _

theorem parts_256 (l : List BS) : ((splitL l).map cnt).sum = 256 := by
  obtain ⟨h1, h2⟩ := splitL_parts l
  rw [← flat_len]
  have hnd : ((splitL l).flatMap bytesL).Nodup := by
    refine nodup_flat (fun x _ => bytesL_nodup x) ?_
    have hm : ∀ p ∈ splitL l, Part l p := fun p hp => (h1 p).1 hp
    refine h2.imp_of_mem fun {a b} ha hb hlt x hxa hxb => ?_
    have e := Part.eq (hm a ha) (hm b hb) ((mem_bytesL a x).1 hxa).1 ((mem_bytesL a x).1 hxa).2 ((mem_bytesL b x).1 hxb).2
    rw [e] at hlt
    exact Nat.lt_irrefl _ hlt
  apply Nat.le_antisymm
  · have := nodup_sub_len (m := List.range 256) hnd (fun x hx => by
      obtain ⟨p, _, hb⟩ := List.mem_flatMap.1 hx
      simpa using ((mem_bytesL p x).1 hb).1)
    simpa using this
  · have := nodup_sub_len (l := List.range 256) (m := (splitL l).flatMap bytesL) List.nodup_range (fun x hx => by
      have hx' : x < 256 := by simpa using hx
      obtain ⟨q, hq⟩ := exists_bs (fun c => sameB l c x)
      have hP : Part l q := ⟨x, hx', hq⟩
      refine List.mem_flatMap.2 ⟨q, (h1 q).2 hP, (mem_bytesL q x).2 ⟨hx', ?_⟩⟩
      rw [hq x hx', sameB_refl])
    simpa using this

theorem cnt_not (a : BS) : cnt a + cnt (~~~a) = 256 := by
  rw [cnt_len, cnt_len]
  unfold bytesL
  have h := List.length_eq_countP_add_countP (fun j => a.getLsbD j) (l := List.range' 0 256)
  rw [List.countP_eq_length_filter, List.countP_eq_length_filter, List.length_range'] at h
  have e : (List.range' 0 256).filter (fun j => (~~~a).getLsbD j) = (List.range' 0 256).filter (fun j => !a.getLsbD j) := by
    apply List.filter_congr
    intro j hj
    have : j < 256 := by simpa using hj
    rw [BitVec.getLsbD_not]
    simp [this]
  rw [e]
  have e2 : (fun j => decide ¬a.getLsbD j = true) = (fun j => !a.getLsbD j) := by
    funext j
    cases a.getLsbD j <;> rfl
  rw [e2] at h
  omega

/-! ### sets in another order -/
theorem splitTo_same {l m : List BS} (h : ∀ b f, sameB l b f = sameB m b f) : ∀ b, splitTo l b = splitTo m b := by
  intro b
  induction b with
  | zero => rfl
  | succ b ih =>
    unfold splitTo
    have e : sameB l b = sameB m b := funext (h b)
    rw [e, ih]
theorem sameB_mem {l m : List BS} (h : ∀ s, s ∈ l ↔ s ∈ m) (b f : Nat) : sameB l b f = sameB m b f := by
  rw [Bool.eq_iff_iff, sameB_true, sameB_true]
  exact ⟨fun k s hs => k s ((h s).2 hs), fun k s hs => k s ((h s).1 hs)⟩
theorem splitL_mem {l m : List BS} (h : ∀ s, s ∈ l ↔ s ∈ m) : splitL l = splitL m := by
  unfold splitL; rw [splitTo_same (sameB_mem h)]

theorem union_fold (l : List BS) (j : Nat) : ∀ u : BS, (l.foldl (fun u s => u ||| s) u).getLsbD j = (u.getLsbD j || l.any (·.getLsbD j)) := by
  induction l with
  | nil => intro u; simp
  | cons x l ih => intro u; rw [List.foldl_cons, ih, BitVec.getLsbD_or, List.any_cons, Bool.or_assoc]
theorem unionL_mem {l m : List BS} (h : ∀ s, s ∈ l ↔ s ∈ m) : unionL l = unionL m := by
  apply BitVec.eq_of_getLsbD_eq
  intro j _
  unfold unionL
  rw [union_fold, union_fold]
  congr 1
  rw [Bool.eq_iff_iff, List.any_eq_true, List.any_eq_true]
  exact ⟨fun ⟨s, hs, k⟩ => ⟨s, (h s).1 hs, k⟩, fun ⟨s, hs, k⟩ => ⟨s, (h s).2 hs, k⟩⟩

/-- A list turned round, each twice: what k rounds have made. -/
def turned (l : List BS) (k : Nat) : List BS := (l.reverse.take k).flatMap fun x => [x, x]
theorem turned_succ (l : List BS) (k : Nat) (x : BS) (h : l.reverse[k]? = some x) : turned l (k + 1) = turned l k ++ [x, x] := by
  unfold turned
  rw [List.take_add_one, h]
  simp
theorem turned_len (l : List BS) (k : Nat) (h : k ≤ l.length) : (turned l k).length = k * 2 := by
  induction k with
  | zero => simp [turned]
  | succ k ih =>
    have hk : k < l.reverse.length := by simp; omega
    rw [turned_succ l k _ (List.getElem?_eq_getElem hk), List.length_append, ih (by omega)]
    simp
    omega
theorem turned_mem (l : List BS) (s : BS) : s ∈ l ↔ s ∈ turned l l.length := by
  unfold turned
  rw [List.take_of_length_le (by simp), List.mem_flatMap]
  simp

/-- A part of more sets lies in just one part of fewer. -/
theorem part_fewer {l : List BS} {a p : BS} (hp : Part (a :: l) p) : ∃ i : Nat, i < (splitL l).length ∧ ∀ k q, (splitL l)[k]? = some q → ((p &&& q == p) = decide (k = i)) := by
  obtain ⟨h1, h2⟩ := splitL_parts l
  obtain ⟨x, hx, hb⟩ := hp
  obtain ⟨q0, hq0⟩ := exists_bs (fun c => sameB l c x)
  have hP0 : Part l q0 := ⟨x, hx, hq0⟩
  obtain ⟨i, hi⟩ := List.getElem?_of_mem ((h1 q0).2 hP0)
  have hil := (List.getElem?_eq_some_iff.1 hi).1
  refine ⟨i, hil, fun k q hk => ?_⟩
  have hsub : ∀ c, c < 256 → p.getLsbD c = true → q0.getLsbD c = true := by
    intro c hc hpc
    rw [hb c hc] at hpc
    rw [hq0 c hc]
    exact sameB_true.2 fun s hs => sameB_true.1 hpc s (by simp [hs])
  have hpx : p.getLsbD x = true := by rw [hb x hx, sameB_refl]
  rw [Bool.eq_iff_iff, decide_eq_true_iff, beq_iff_eq]
  constructor
  · intro e
    have hqx : q.getLsbD x = true := by
      have := congrArg (fun v => BitVec.getLsbD v x) e
      simp only [BitVec.getLsbD_and, hpx, Bool.true_and] at this
      exact this
    have hq0x : q0.getLsbD x = true := hsub x hx hpx
    have heq : q = q0 := Part.eq ((h1 q).1 (List.mem_of_getElem? hk)) hP0 hx hqx hq0x
    rcases Nat.lt_trichotomy k i with hlt | rfl | hgt
    · have := List.pairwise_iff_getElem.1 h2 k i (List.getElem?_eq_some_iff.1 hk).1 hil hlt
      rw [(List.getElem?_eq_some_iff.1 hk).2, (List.getElem?_eq_some_iff.1 hi).2, heq] at this
      exact absurd this (Nat.lt_irrefl _)
    · rfl
    · have := List.pairwise_iff_getElem.1 h2 i k hil (List.getElem?_eq_some_iff.1 hk).1 hgt
      rw [(List.getElem?_eq_some_iff.1 hk).2, (List.getElem?_eq_some_iff.1 hi).2, heq] at this
      exact absurd this (Nat.lt_irrefl _)
  · rintro rfl
    rw [hi] at hk
    cases hk
    apply BitVec.eq_of_getLsbD_eq
    intro c hc
    rw [BitVec.getLsbD_and]
    cases hpc : p.getLsbD c with
    | false => rfl
    | true => rw [hsub c hc hpc]; rfl

theorem fewer_len (a : BS) (l : List BS) : (splitL l).length ≤ (splitL (a :: l)).length := by
  obtain ⟨h1, h2⟩ := splitL_parts l
  obtain ⟨k1, k2⟩ := splitL_parts (a :: l)
  have hn : ((splitL l).map lo).Nodup := by
    rw [List.Nodup, List.pairwise_map]
    exact h2.imp fun {a b} h e => by rw [e] at h; exact Nat.lt_irrefl _ h
  have := nodup_sub_len (m := (splitL (a :: l)).map lo) hn (fun y hy => by
    obtain ⟨q, hq, rfl⟩ := List.mem_map.1 hy
    have hQ := (h1 q).1 hq
    have hlo := hQ.lo
    have hlt := lo_lt q
    obtain ⟨p, hp⟩ := exists_bs (fun c => sameB (a :: l) c (lo q))
    have hP : Part (a :: l) p := ⟨lo q, hlt, hp⟩
    refine List.mem_map.2 ⟨p, (k1 p).2 hP, ?_⟩
    have hpl : p.getLsbD (lo q) = true := by rw [hp _ hlt, sameB_refl]
    apply Nat.le_antisymm
    · exact lo_le hlt hpl
    · refine lo_le (lo_lt p) ?_
      rw [hQ.at hlt hlo _ (lo_lt p)]
      have := hP.lo
      rw [hp _ (lo_lt p)] at this
      exact sameB_true.2 fun s hs => sameB_true.1 this s (by simp [hs]))
  simpa using this
end Go.Proofs.YtegmoeeeomjkgaaDoor
end
