import Derived.Test.YtdodkbpagbblmaaDoorB
import Derived.Test.YtdodkbpagbblmaaDoorLib
namespace Go.Proofs.YtdodkbpagbblmaaDoor
open Go Go.RowKit

/-- The bytes that have a \ ahead in a set's text. -/
def signB (b : Nat) : Bool := b == 92 || b == 91 || b == 93 || b == 45 || b == 94

theorem sign_all : ∀ b : Fin 256, decide (0 ≤ Lib.indexByte [92, 91, 93, 45, 94] b.val.toUInt8) = signB b.val := by decide +kernel

set_option maxHeartbeats 400000 in
theorem isSign_any (b : Nat) (hb : b < 256) (w : World) : Calls Tryd.prog 81 #[.int .u8 b] w fun e w' => e = .returned (.bool (signB b)) ∧ w = w' := by
  have h := sign_all ⟨b, hb⟩
  rw [← h]; clear h
  go_enter Tryd.func81, Tryd.ntmps81
  go_wp2_with (go_at_call 43; refine (Tryd.strings_IndexByte _ _ _).mono ?_; rintro e w' ⟨rfl, rfl⟩)
  go_ret
  exact ⟨by simp, rfl⟩

end Go.Proofs.YtdodkbpagbblmaaDoor
