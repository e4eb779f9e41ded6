import Derived.Test.YtmlkeddiagmedaaApply
namespace Go.Proofs.Ytmlkeddiagmedaa
open Go.RowKit

set_option maxHeartbeats 400000 in
theorem applicable_long (s : ByteArray) (v : Value) (w : World) (hs : 1048576 < s.size) (hs2 : s.size ≤ 140737488351232) :
    Calls Try.prog 31 #[.string s, v] w fun e w' => e = .returned (.tuple #[.slice none 0 0, .int .i64 3]) ∧ w = w' := by
  go_enter Try.func31, Try.ntmps31
  go_wp2
  go_ret2
  exact ⟨rfl, rfl⟩

set_option maxHeartbeats 400000 in
theorem apply_long (s : ByteArray) (v : Value) (w : World) (hs : 1048576 < s.size) (hs2 : s.size ≤ 140737488351232) :
    Calls Try.prog 16 #[.string s, v] w fun e w' => e = .returned (.tuple #[.string ⟨#[]⟩, .int .i64 3]) ∧ w = w' := by
  have HA := Lib.hid (fun W => applicable_long s v W hs hs2)
  go_enter Try.func16, Try.ntmps16
  go_wp2_with fail
  refine (HA.out _).mono ?_
  rintro e w' ⟨rfl, rfl⟩
  go_wp2
  go_ret2
  exact ⟨rfl, rfl⟩

theorem applyA_length (s : ByteArray) (sd : List Ed) (hg : ∀ x ∈ sd, goodEd s.size x) (hv : ¬ Ovl sd) : ((applyA s.data.toList sd).length : Int) = s.size + sumG sd := by
  have hsz : s.data.toList.length = s.size := by simp
  have h := runA_len s.data.toList sd (by rw [hsz]; exact hg) hv sd.length (Nat.le_refl _)
  rw [List.take_length] at h
  unfold applyA
  rw [List.length_append, List.length_drop]
  omega

end Go.Proofs.Ytmlkeddiagmedaa
