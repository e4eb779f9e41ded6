import Derived.Test.YtmlkeddiagmedaaA
import Derived.Test.YtmlkeddiagmedaaLib
import Derived.Lib.Strings
namespace Go.Proofs.Ytmlkeddiagmedaa
open Go.RowKit

def lineOf (s : ByteArray) (p : Nat) : Int := Lib.countByte (s.extract 0 p).data.toList 10 + 1
def colOf (s : ByteArray) (p : Nat) : Int := (p : Int) - (Lib.lastIndexByte (s.extract 0 p) 10 + 1) + 1

set_option maxHeartbeats 400000 in
theorem at_long (s : ByteArray) (p : Int) (w : World) (h : 1048576 < s.size) (hs : s.size ≤ 140737488351232) :
    Calls Try.prog 10 #[.string s, .int .i64 p] w fun e w' => e = .returned (.tuple #[.agg #[.int .i64 0, .int .i64 0], .int .i64 3]) ∧ Below w.heap.size w w' := by
  go_enter Try.func10, Try.ntmps10
  go_wp2
  refine bodyPost_ret (v := .tuple #[.agg #[.int .i64 0, .int .i64 0], .int .i64 3]) (by simp [results, Try.results10, go_sem]) rfl ⟨rfl, ?_⟩
  exact (Below.refl _ _).alloc (Nat.le_refl _) _

set_option maxHeartbeats 400000 in
theorem at_bad (s : ByteArray) (p : Int) (w : World) (h : s.size ≤ 1048576) (hp : p < 0 ∨ s.size < p) :
    Calls Try.prog 10 #[.string s, .int .i64 p] w fun e w' => e = .returned (.tuple #[.agg #[.int .i64 0, .int .i64 0], .int .i64 4]) ∧ Below w.heap.size w w' := by
  rcases hp with hp | hp
  all_goals
    go_enter Try.func10, Try.ntmps10
    go_wp2
    refine bodyPost_ret (v := .tuple #[.agg #[.int .i64 0, .int .i64 0], .int .i64 4]) (by simp [results, Try.results10, go_sem]) rfl ⟨rfl, ?_⟩
    exact (Below.refl _ _).alloc (Nat.le_refl _) _

theorem lastByte_bd (s : ByteArray) (c : Int) : -1 ≤ Lib.lastIndexByte s c ∧ Lib.lastIndexByte s c < s.size := by
  unfold Lib.lastIndexByte
  rcases Lib.lastIdx_spec s c s.size with ⟨h, _⟩ | ⟨i, hi, h, _⟩ <;> rw [h] <;> omega

theorem count_bd (l : List UInt8) (c : UInt8) : Lib.countByte l c ≤ l.length := by
  unfold Lib.countByte
  exact List.count_le_length

theorem lastIndex_at (s : ByteArray) (h : s.size ≤ 1048576) (w : World) : ∃ L : Int, L = Lib.lastIndexByte s 10 ∧ -1 ≤ L ∧ L < s.size ∧
    Calls Try.prog 23 #[.string s, .string ⟨#[10]⟩] w fun e w' => e = .returned (.int .i64 L) ∧ w = w' :=
  ⟨_, rfl, (lastByte_bd s 10).1, (lastByte_bd s 10).2, (Try.strings_LastIndex_one s ⟨#[10]⟩ rfl (by omega) w).mono fun _ _ ⟨a, b⟩ => ⟨a, b.symm⟩⟩

theorem count_at (s : ByteArray) (w : World) : ∃ C : Nat, C = Lib.countByte s.data.toList 10 ∧ C ≤ s.size ∧
    Calls Try.prog 14 #[.string s, .string ⟨#[10]⟩] w fun e w' => e = .returned (.int .i64 C) ∧ w = w' :=
  ⟨_, rfl, count_bd _ _, (Try.strings_Count_one s 10 w).mono fun _ _ ⟨a, b⟩ => ⟨a, b.symm⟩⟩

theorem extract_size (s : ByteArray) (p : Nat) (hp : p ≤ s.size) : (s.extract 0 p).size = p := by
  rw [ByteArray.size_extract]; omega

set_option maxHeartbeats 400000 in
theorem at_ok (s : ByteArray) (p : Nat) (w : World) (h : s.size ≤ 1048576) (hp : p ≤ s.size) :
    Calls Try.prog 10 #[.string s, .int .i64 p] w fun e w' => e = .returned (.tuple #[.agg #[.int .i64 (lineOf s p), .int .i64 (colOf s p)], .int .i64 0]) ∧ Below w.heap.size w w' := by
  have es := extract_size s p hp
  obtain ⟨L, hL, L0, L1, cL⟩ := lastIndex_at (s.extract 0 p) (by omega) (w.alloc (.cells #[.int .i64 0, .int .i64 0] 23))
  obtain ⟨C, hC, C1, cC⟩ := count_at (s.extract 0 p) (w.alloc (.cells #[.int .i64 0, .int .i64 0] 23))
  have e1 : lineOf s p = (C : Int) + 1 := by rw [hC]; rfl
  have e2 : colOf s p = (p : Int) - (L + 1) + 1 := by rw [hL]; rfl
  rw [e1, e2]
  have L2 : L < (p : Int) := by omega
  have C2 : C ≤ 1048576 := by omega
  clear e1 e2 hL hC es L1 C1
  have HL := Lib.hid cL
  have HC := Lib.hid cC
  clear cL cC
  go_enter Try.func10, Try.ntmps10
  go_wp2_with (first | (go_at_call 23; refine HL.out.mono ?_; rintro e w' ⟨rfl, rfl⟩) | (go_at_call 14; refine HC.out.mono ?_; rintro e w' ⟨rfl, rfl⟩))
  refine bodyPost_ret (v := .tuple #[.agg #[.int .i64 ((C : Int) + 1), .int .i64 ((p : Int) - (L + 1) + 1)], .int .i64 0]) (by simp [results, Try.results10, go_sem]) rfl ⟨rfl, ?_⟩
  exact (Below.refl _ _).alloc (Nat.le_refl _) _

end Go.Proofs.Ytmlkeddiagmedaa
