import Derived.Test.YtegmoeeeomjkgaaDoorW0
import Derived.Test.YtegmoeeeomjkgaaDoorC
namespace Go.Proofs.YtegmoeeeomjkgaaDoor
open Go Go.RowKit Go.Shelf

set_option maxHeartbeats 400000 in
theorem num_any (e : Int) (w : World) : Calls Tryd.prog 14 #[.int .i64 e] w fun r w' => r = .returned (.int .i64 e) ∧ w = w' := by
  go_enter Tryd.func14, Tryd.ntmps14
  go_wp2
  go_ret
  exact ⟨rfl, rfl⟩

theorem bytes_any (s : BS) (w : World) : Calls Tryd.prog 32 #[vset s] w fun e w' => e = .returned (.func (.func 45) #[] #[.pointer (some ⟨w.heap.size, 0, none⟩)]) ∧ Below w.heap.size w w' :=
  (callsIn_wide.1 (bytes_in 6 s w)).mono fun _ _ ⟨a, b⟩ => ⟨a, by rw [b]; exact (Below.refl _ w).alloc (Nat.le_refl _) _⟩

theorem wk_make (w : World) : Calls Tryd.prog 11 #[.slice (some ⟨w.heap.size, 0, none⟩) 2 2] (w.alloc (.cells #[.int .u8 97, .int .u8 122, .int .u8 10, .int .u8 10] 26)) fun e w' => e = .returned (.tuple #[vset wset, .int .i64 0]) ∧ Below w.heap.size w w' := by
  have h := make_any (some ⟨w.heap.size, 0, none⟩) 2 [(97, 122), (10, 10)] (w.alloc (.cells #[.int .u8 97, .int .u8 122, .int .u8 10, .int .u8 10] 26)) (by
    intro i x hx
    have hb := Blk.new w 26 #[.int .u8 97, .int .u8 122, .int .u8 10, .int .u8 10]
    have hi := (List.getElem?_eq_some_iff.1 hx).1
    have : i = 0 ∨ i = 1 := by simp at hi; omega
    rcases this with rfl | rfl
    · simp at hx; subst hx
      exact ⟨_, 0, rfl, hb.cell 0, hb.cell 1⟩
    · simp at hx; subst hx
      exact ⟨_, 0, rfl, hb.cell 2, hb.cell 3⟩) (by intro x hx; simp at hx; rcases hx with rfl | rfl <;> decide) (by decide)
  rw [w_make] at h
  exact h.mono fun _ _ ⟨a, b⟩ => ⟨a, ((Below.refl _ w).alloc (Nat.le_refl _) _).trans (b.mono (by simp))⟩

theorem wk_read (w : World) (hG : Glob w) : Calls Tryd.prog 36 #[.string ⟨#[91, 92, 110, 97, 45, 122, 93]⟩] w fun e w' => e = .returned (.tuple #[vset wset, .int .i64 0]) ∧ Below w.heap.size w w' := by
  have h := read_any ⟨#[91, 92, 110, 97, 45, 122, 93]⟩ (by decide) w hG
  rw [show (⟨#[91, 92, 110, 97, 45, 122, 93]⟩ : ByteArray).data.toList = [91, 92, 110, 97, 45, 122, 93] from rfl, w_read] at h
  exact h
theorem wk_bad (w : World) (hG : Glob w) : Calls Tryd.prog 36 #[.string ⟨#[91, 122, 45, 97, 93]⟩] w fun e w' => e = .returned (.tuple #[.agg #[.int .u64 0, .int .u64 0, .int .u64 0, .int .u64 0], .int .i64 120]) ∧ Below w.heap.size w w' := by
  have h := read_any ⟨#[91, 122, 45, 97, 93]⟩ (by decide) w hG
  rw [show (⟨#[91, 122, 45, 97, 93]⟩ : ByteArray).data.toList = [91, 122, 45, 97, 93] from rfl, w_bad] at h
  exact h
theorem wk_text (w : World) (hG : Glob w) : Calls Tryd.prog 38 #[vset wset] w fun e w' => e = .returned (.string ⟨#[91, 92, 110, 97, 45, 122, 93]⟩) ∧ Below w.heap.size w w' := by
  have h := text_any wset w hG
  rw [w_text] at h
  exact h
theorem wk_count (w : World) : Calls Tryd.prog 31 #[vset wset] w fun e w' => e = .returned (.int .i64 27) ∧ Below w.heap.size w w' := by
  have h := count_any wset w
  rw [w_count] at h
  exact h
theorem wk_q (w : World) : Calls Tryd.prog 16 #[vset wset, .int .u8 113] w fun e w' => e = .returned (.bool true) ∧ Below w.heap.size w w' := by
  have h := has_any wset 113 (by decide) w
  rw [w_q] at h
  exact h
theorem wk_Q (w : World) : Calls Tryd.prog 16 #[vset wset, .int .u8 81] w fun e w' => e = .returned (.bool false) ∧ Below w.heap.size w w' := by
  have h := has_any wset 81 (by decide) w
  rw [w_Q] at h
  exact h

theorem neq_func (a : Value) (w : World) : (binOp .neq 55 (.func (.func 45) #[] #[a]) .nilFunc).run Tryd.prog w = .ok (.bool true) w := by
  kernel_rfl

set_option maxRecDepth 100000 in
set_option maxHeartbeats 4000000 in
theorem works_any (w : World) (hG : Glob w) : Calls Tryd.prog 10 #[] w fun e w' => e = .returned (.bool true) ∧ Below w.heap.size w w' := by
  have HG := Lib.hid hG
  clear hG
  have HE := eq_sets wset wset
  have HF := neq_func
  have hw0 : wset = wset := rfl
  clear hw0
  generalize hW : wset = W at HE
  have K1 := wk_make; have K2 := wk_read; have K3 := wk_bad; have K4 := wk_text; have K5 := wk_count; have K6 := wk_q; have K7 := wk_Q
  rw [hW] at K1 K2 K4 K5 K6 K7
  replace K1 := Lib.hid K1; replace K2 := Lib.hid K2; replace K3 := Lib.hid K3; replace K4 := Lib.hid K4; replace K5 := Lib.hid K5; replace K6 := Lib.hid K6; replace K7 := Lib.hid K7
  have K8 := Lib.hid (bytes_any W)
  clear hW
  go_enter Tryd.func10, Tryd.ntmps10
  go_wp2_with fail
  refine (K1.out _).mono ?_
  rintro e w1 ⟨rfl, hB1⟩
  clear K1
  have HB1 := Lib.hid hB1
  clear hB1
  unfold vset
  go_wp2_with fail
  have HA1 : Hid (Below w.heap.size w (w1.alloc (.cells #[.int .u64 (wdI W 0), .int .u64 (wdI W 1), .int .u64 (wdI W 2), .int .u64 (wdI W 3)] 29))) := HB1.out.alloc HB1.out.size _
  refine (K2.out _ (HG.out.below (Nat.le_refl _) HA1.out)).mono ?_
  rintro e w2 ⟨rfl, hB2⟩
  have bA2 := Lib.hid ((Blk.new w1 29 (cset W)).below hB2 (by simp))
  have HA2 := Lib.hid (HA1.out.trans (hB2.mono HA1.out.size))
  clear HA1 hB2 K2 HB1
  unfold vset
  go_wp2_with fail
  have HA3 : Hid (Below w.heap.size w (w2.alloc (.cells #[.int .u64 (wdI W 0), .int .u64 (wdI W 1), .int .u64 (wdI W 2), .int .u64 (wdI W 3)] 29))) := HA2.out.alloc HA2.out.size _
  refine (K3.out _ (HG.out.below (Nat.le_refl _) HA3.out)).mono ?_
  rintro e w3 ⟨rfl, hB3⟩
  have bA3 := Lib.hid ((bA2.out.alloc (.cells #[.int .u64 (wdI W 0), .int .u64 (wdI W 1), .int .u64 (wdI W 2), .int .u64 (wdI W 3)] 29)).below hB3 (by have := bA2.out.lt; simp; omega))
  have bB3 := Lib.hid ((Blk.new w2 29 (cset W)).below hB3 (by simp))
  have HA4 := Lib.hid (HA3.out.trans (hB3.mono HA3.out.size))
  have hlt3 : w1.heap.size < w3.heap.size := bA3.out.lt
  clear HA2 HA3 hB3 K3 bA2
  have a0 : ∀ o, (w3.alloc o).cell? ⟨w1.heap.size, 0, none⟩ = some (.int .u64 (wdI W 0)) := fun o => (Blk.alloc bA3.out o).cell 0
  have a1 : ∀ o, (w3.alloc o).cell? ⟨w1.heap.size, 1, none⟩ = some (.int .u64 (wdI W 1)) := fun o => (Blk.alloc bA3.out o).cell 1
  have a2 : ∀ o, (w3.alloc o).cell? ⟨w1.heap.size, 2, none⟩ = some (.int .u64 (wdI W 2)) := fun o => (Blk.alloc bA3.out o).cell 2
  have a3 : ∀ o, (w3.alloc o).cell? ⟨w1.heap.size, 3, none⟩ = some (.int .u64 (wdI W 3)) := fun o => (Blk.alloc bA3.out o).cell 3
  have b0 : ∀ o, (w3.alloc o).cell? ⟨w2.heap.size, 0, none⟩ = some (.int .u64 (wdI W 0)) := fun o => (Blk.alloc bB3.out o).cell 0
  have b1 : ∀ o, (w3.alloc o).cell? ⟨w2.heap.size, 1, none⟩ = some (.int .u64 (wdI W 1)) := fun o => (Blk.alloc bB3.out o).cell 1
  have b2 : ∀ o, (w3.alloc o).cell? ⟨w2.heap.size, 2, none⟩ = some (.int .u64 (wdI W 2)) := fun o => (Blk.alloc bB3.out o).cell 2
  have b3 : ∀ o, (w3.alloc o).cell? ⟨w2.heap.size, 3, none⟩ = some (.int .u64 (wdI W 3)) := fun o => (Blk.alloc bB3.out o).cell 3
  go_wp2_with (first | (go_at_call 14; refine (num_any _ _).mono ?_; rintro e w' ⟨rfl, rfl⟩) | fail)
  have HA5 : Hid (Below w.heap.size w (w3.alloc (.cells #[.int .u64 0, .int .u64 0, .int .u64 0, .int .u64 0] 29))) := HA4.out.alloc HA4.out.size _
  have bA4 := Lib.hid (bA3.out.alloc (.cells #[.int .u64 0, .int .u64 0, .int .u64 0, .int .u64 0] 29))
  clear bA3 bB3 b0 b1 b2 b3 a0 a1 a2 a3
  refine (K4.out _ (HG.out.below (Nat.le_refl _) HA5.out)).mono ?_
  rintro e w4 ⟨rfl, hB0⟩
  have bA5 := Lib.hid (bA4.out.below hB0 bA4.out.lt)
  have HA6 := Lib.hid (HA5.out.trans (hB0.mono HA5.out.size))
  clear hB0 bA4 HA5 K4
  have a0 : w4.cell? ⟨w1.heap.size, 0, none⟩ = some (.int .u64 (wdI W 0)) := Blk.cell bA5.out 0
  have a1 : w4.cell? ⟨w1.heap.size, 1, none⟩ = some (.int .u64 (wdI W 1)) := Blk.cell bA5.out 1
  have a2 : w4.cell? ⟨w1.heap.size, 2, none⟩ = some (.int .u64 (wdI W 2)) := Blk.cell bA5.out 2
  have a3 : w4.cell? ⟨w1.heap.size, 3, none⟩ = some (.int .u64 (wdI W 3)) := Blk.cell bA5.out 3
  go_wp2_with (first | (go_at_call 14; refine (num_any _ _).mono ?_; rintro e w' ⟨rfl, rfl⟩) | fail)
  refine (K5.out _).mono ?_
  rintro e w5 ⟨rfl, hB1⟩
  have bA6 := Lib.hid (bA5.out.below hB1 bA5.out.lt)
  have HA7 := Lib.hid (HA6.out.trans (hB1.mono HA6.out.size))
  clear hB1 bA5 HA6 K5
  clear a0 a1 a2 a3
  have a0 : w5.cell? ⟨w1.heap.size, 0, none⟩ = some (.int .u64 (wdI W 0)) := Blk.cell bA6.out 0
  have a1 : w5.cell? ⟨w1.heap.size, 1, none⟩ = some (.int .u64 (wdI W 1)) := Blk.cell bA6.out 1
  have a2 : w5.cell? ⟨w1.heap.size, 2, none⟩ = some (.int .u64 (wdI W 2)) := Blk.cell bA6.out 2
  have a3 : w5.cell? ⟨w1.heap.size, 3, none⟩ = some (.int .u64 (wdI W 3)) := Blk.cell bA6.out 3
  go_wp2_with (first | (go_at_call 14; refine (num_any _ _).mono ?_; rintro e w' ⟨rfl, rfl⟩) | fail)
  refine (K6.out _).mono ?_
  rintro e w6 ⟨rfl, hB2⟩
  have bA7 := Lib.hid (bA6.out.below hB2 bA6.out.lt)
  have HA8 := Lib.hid (HA7.out.trans (hB2.mono HA7.out.size))
  clear hB2 bA6 HA7 K6
  clear a0 a1 a2 a3
  have a0 : w6.cell? ⟨w1.heap.size, 0, none⟩ = some (.int .u64 (wdI W 0)) := Blk.cell bA7.out 0
  have a1 : w6.cell? ⟨w1.heap.size, 1, none⟩ = some (.int .u64 (wdI W 1)) := Blk.cell bA7.out 1
  have a2 : w6.cell? ⟨w1.heap.size, 2, none⟩ = some (.int .u64 (wdI W 2)) := Blk.cell bA7.out 2
  have a3 : w6.cell? ⟨w1.heap.size, 3, none⟩ = some (.int .u64 (wdI W 3)) := Blk.cell bA7.out 3
  go_wp2_with (first | (go_at_call 14; refine (num_any _ _).mono ?_; rintro e w' ⟨rfl, rfl⟩) | fail)
  refine (K7.out _).mono ?_
  rintro e w7 ⟨rfl, hB3⟩
  have bA8 := Lib.hid (bA7.out.below hB3 bA7.out.lt)
  have HA9 := Lib.hid (HA8.out.trans (hB3.mono HA8.out.size))
  clear hB3 bA7 HA8 K7
  clear a0 a1 a2 a3
  have a0 : w7.cell? ⟨w1.heap.size, 0, none⟩ = some (.int .u64 (wdI W 0)) := Blk.cell bA8.out 0
  have a1 : w7.cell? ⟨w1.heap.size, 1, none⟩ = some (.int .u64 (wdI W 1)) := Blk.cell bA8.out 1
  have a2 : w7.cell? ⟨w1.heap.size, 2, none⟩ = some (.int .u64 (wdI W 2)) := Blk.cell bA8.out 2
  have a3 : w7.cell? ⟨w1.heap.size, 3, none⟩ = some (.int .u64 (wdI W 3)) := Blk.cell bA8.out 3
  go_wp2_with (first | (go_at_call 14; refine (num_any _ _).mono ?_; rintro e w' ⟨rfl, rfl⟩) | fail)
  refine (K8.out _).mono ?_
  rintro e w8 ⟨rfl, hB4⟩
  have bA9 := Lib.hid (bA8.out.below hB4 bA8.out.lt)
  have HA10 := Lib.hid (HA9.out.trans (hB4.mono HA9.out.size))
  clear hB4 bA8 HA9 K8
  go_wp2
  go_ret
  exact ⟨rfl, HA10.out⟩
end Go.Proofs.YtegmoeeeomjkgaaDoor
