import Derived.BigQuiet
import Derived.Test.YtdodkbpagbblmaaDoorQ25
import Derived.Test.YtdodkbpagbblmaaDoorQ27
namespace Go.Proofs.YtdodkbpagbblmaaDoor
open Go Go.RowKit

theorem lexAt_bounds : ∀ (n : Nat) (l : List UInt8), l.length ≤ n → ∀ k, (lexAt l k).1.length ≤ l.length ∧ (∀ p ∈ (lexAt l k).1, p.2 ≤ k + l.length) ∧ ∀ q, (lexAt l k).2 = some q → q ≤ k + l.length := by
  intro n
  induction n with
  | zero =>
    intro l h k
    have : l = [] := List.length_eq_zero_iff.1 (by omega)
    subst this
    rw [lexAt_end [] _ rfl]
    simp
  | succ n ih =>
    intro l h k
    have hle := skipL_le l
    by_cases he : l.drop (skipL l) = []
    · rw [lexAt_end l _ he]; simp
    · cases hn : nextW (l.drop (skipL l)) with
      | none =>
        rw [lexAt_bad l _ he hn]
        simp
        omega
      | some p =>
        have hp := nextW_len _ p hn
        have hl2 : ((l.drop (skipL l)).drop p.2).length + p.2 + skipL l = l.length := by
          rw [List.length_drop] at hp ⊢
          rw [List.length_drop]
          omega
        obtain ⟨i1, i2, i3⟩ := ih ((l.drop (skipL l)).drop p.2) (by omega) (k + skipL l + p.2)
        rw [lexAt_step l _ p he hn]
        refine ⟨by simp only [List.length_cons]; omega, ?_, fun q hq => ?_⟩
        · intro x hx
          rcases List.mem_cons.1 hx with rfl | hx
          · simp only; omega
          · have := i2 x hx; omega
        · have := i3 q hq; omega

theorem lex_some (t : ByteArray) (ht : t.size ≤ 1048576) (w : World) (hG : GlobD w) :
    Calls Tryd.prog 7 #[.string t] w fun e w' => ∃ (v : Value) (a n : Int), e = .returned (.tuple #[v, .int .i64 a, .int .i64 n]) ∧ Below w.heap.size w w' := by
  refine (lex_any t w hG).mono ?_
  rintro e w' ⟨hB, h1 | h1 | h1⟩
  · omega
  · obtain ⟨_, b, _, he⟩ := h1
    exact ⟨_, _, _, he, hB⟩
  · obtain ⟨_, _, v, he, _⟩ := h1
    exact ⟨_, _, _, he, hB⟩
theorem own_rowWn {w : World} {n₀ n : Nat} {v : Value} {ws : List (Wd × Nat)} (h : w.ownsRow n₀ 38 8 v ws.length (cellsW ws)) (hn : ws.length = n) : ∃ a cap, v = .slice a n cap ∧ RowW w a (withI ws) := by
  subst hn
  exact own_rowW h

theorem joinT (a b : ByteArray) : (a ++ ⟨#[10]⟩ ++ b).data.toList = a.data.toList ++ 10 :: b.data.toList ∧ (a ++ ⟨#[10]⟩ ++ b).size = a.size + 1 + b.size := by
  have h : (a ++ ⟨#[10]⟩ ++ b).data.toList = a.data.toList ++ 10 :: b.data.toList := by simp [ByteArray.data_append]
  refine ⟨h, ?_⟩
  rw [Lib.size_eq, h, Lib.size_eq, Lib.size_eq]
  simp
  omega

set_option maxRecDepth 100000 in
set_option maxHeartbeats 4000000 in
theorem lawJoin_long (a b : ByteArray) (w : World) (hG : GlobD w) (h : 2500 < a.size ∨ 2500 < b.size) :
    Calls Tryd.prog 6 #[.string a, .string b] w fun e w' => e = .returned (.bool true) ∧ Below w.heap.size w w' := by
  have HW := Lib.hid (works_any w hG)
  clear hG
  by_cases h1 : 2500 < a.size
  · have n1 : (2500 : Int) < (a.size : Int) := by omega
    clear h
    go_enter Tryd.func6, Tryd.ntmps6
    go_wp2_with (go_at_call 11; refine HW.out.mono ?_; rintro e w1 ⟨rfl, hB⟩)
    go_ret
    exact ⟨rfl, hB⟩
  · have h2 : 2500 < b.size := h.resolve_left h1
    have n1 : ¬ (2500 : Int) < (a.size : Int) := by omega
    have n2 : (2500 : Int) < (b.size : Int) := by omega
    clear h
    go_enter Tryd.func6, Tryd.ntmps6
    go_wp2_with (go_at_call 11; refine HW.out.mono ?_; rintro e w1 ⟨rfl, hB⟩)
    go_ret
    exact ⟨rfl, hB⟩

set_option maxRecDepth 100000 in
set_option maxHeartbeats 4000000 in
theorem lawJoin_bad1 (a b : ByteArray) (w : World) (hG : GlobD w) (ha : a.size ≤ 2500) (hb : b.size ≤ 2500) (p : Nat) (hp : (lexAt a.data.toList 0).2 = some p) :
    Calls Tryd.prog 6 #[.string a, .string b] w fun e w' => e = .returned (.bool true) ∧ Below w.heap.size w w' := by
  obtain ⟨j1, j2⟩ := joinT a b
  have hj : (lexAt (a ++ ⟨#[10]⟩ ++ b).data.toList 0).2 = some p := by rw [j1, lexAt_join, hp]
  have H1 := Lib.hid (lex_bad a p hp (by omega) w hG)
  have H2 := Lib.hid (fun W hW => lex_some b (by omega) W hW)
  have H3 := Lib.hid (fun W hW => lex_bad _ p hj (by omega) W hW)
  have HW := Lib.hid (fun W hW => works_any W hW)
  have HG := Lib.hid hG
  have n1 : ¬ (2500 : Int) < (a.size : Int) := by omega
  have n2 : ¬ (2500 : Int) < (b.size : Int) := by omega
  clear hj hp hG j1 j2
  go_enter Tryd.func6, Tryd.ntmps6
  go_wp2_with fail
  refine H1.out.mono ?_
  rintro e w1 ⟨rfl, hB1⟩
  have HG1 := Lib.hid (HG.out.below (Nat.le_refl _) hB1)
  have HB1 := Lib.hid hB1
  clear hB1
  go_wp2_with fail
  refine (H2.out _ HG1.out).mono ?_
  rintro e w2 ⟨v2, a2, n2', rfl, hB2⟩
  have HG2 := Lib.hid (HG1.out.below (Nat.le_refl _) hB2)
  have HB2 := Lib.hid (HB1.out.trans (hB2.mono HB1.out.size))
  clear hB2
  go_wp2_with fail
  refine (H3.out _ HG2.out).mono ?_
  rintro e w3 ⟨rfl, hB3⟩
  have HG3 := Lib.hid (HG2.out.below (Nat.le_refl _) hB3)
  have HB3 := Lib.hid (HB2.out.trans (hB3.mono HB2.out.size))
  clear hB3
  go_wp2_with (first
    | (go_at_call 10; refine (num_any _ _).mono ?_; rintro e w' ⟨rfl, rfl⟩)
    | (go_at_call 11; refine (HW.out _ HG3.out).mono ?_; rintro e w4 ⟨rfl, hB4⟩))
  go_ret
  exact ⟨rfl, HB3.out.trans (hB4.mono HB3.out.size)⟩

set_option maxRecDepth 100000 in
set_option maxHeartbeats 4000000 in
theorem lawJoin_bad2 (a b : ByteArray) (w : World) (hG : GlobD w) (ha : a.size ≤ 2500) (hb : b.size ≤ 2500) (hp : (lexAt a.data.toList 0).2 = none) (q : Nat) (hq : (lexAt b.data.toList 0).2 = some q) :
    Calls Tryd.prog 6 #[.string a, .string b] w fun e w' => e = .returned (.bool true) ∧ Below w.heap.size w w' := by
  obtain ⟨j1, j2⟩ := joinT a b
  have hj : (lexAt (a ++ ⟨#[10]⟩ ++ b).data.toList 0).2 = some (q + (a.size + 1)) := by rw [j1, lexAt_join, hp]; simp only; rw [hq, Lib.size_eq]; rfl
  have hqb := (lexAt_bounds _ b.data.toList (Nat.le_refl _) 0).2.2 q hq
  rw [← Lib.size_eq] at hqb
  have H1 := Lib.hid (lex_some a (by omega) w hG)
  have H1' := Lib.hid (lex_ok a (lexAt a.data.toList 0).1 (by rw [← hp]) (by omega) w hG)
  have H2 := Lib.hid (fun W hW => lex_bad b q hq (by omega) W hW)
  have H3 := fun W hW => lex_bad _ (q + (a.size + 1)) hj (by omega) W hW
  obtain ⟨pl, hpl⟩ : ∃ pl : Int, pl = ((q + (a.size + 1) : Nat) : Int) := ⟨_, rfl⟩
  rw [← hpl] at H3
  have hpe : (pl == (a.size : Int) + 1 + (q : Int)) = true := by rw [beq_iff_eq, hpl]; push_cast; omega
  have H3 := Lib.hid H3
  have HW := Lib.hid (fun W hW => works_any W hW)
  have HG := Lib.hid hG
  have n1 : ¬ (2500 : Int) < (a.size : Int) := by omega
  have n2 : ¬ (2500 : Int) < (b.size : Int) := by omega
  have n3 : (q : Int) ≤ 2500 := by omega
  clear hj hp hG j1 j2 hpl hq H1
  go_enter Tryd.func6, Tryd.ntmps6
  go_wp2_with fail
  refine H1'.out.mono ?_
  rintro e w1 ⟨v1, rfl, _, hB1⟩
  have HG1 := Lib.hid (HG.out.below (Nat.le_refl _) hB1)
  have HB1 := Lib.hid hB1
  clear hB1
  go_wp2_with fail
  refine (H2.out _ HG1.out).mono ?_
  rintro e w2 ⟨rfl, hB2⟩
  have HG2 := Lib.hid (HG1.out.below (Nat.le_refl _) hB2)
  have HB2 := Lib.hid (HB1.out.trans (hB2.mono HB1.out.size))
  clear hB2
  go_wp2_with fail
  refine (H3.out _ HG2.out).mono ?_
  rintro e w3 ⟨rfl, hB3⟩
  have HG3 := Lib.hid (HG2.out.below (Nat.le_refl _) hB3)
  have HB3 := Lib.hid (HB2.out.trans (hB3.mono HB2.out.size))
  clear hB3
  go_wp2_with (first
    | (go_at_call 10; refine (num_any _ _).mono ?_; rintro e w' ⟨rfl, rfl⟩)
    | (go_at_call 11; refine (HW.out _ HG3.out).mono ?_; rintro e w4 ⟨rfl, hB4⟩))
  go_ret
  exact ⟨rfl, HB3.out.trans (hB4.mono HB3.out.size)⟩
end Go.Proofs.YtdodkbpagbblmaaDoor
