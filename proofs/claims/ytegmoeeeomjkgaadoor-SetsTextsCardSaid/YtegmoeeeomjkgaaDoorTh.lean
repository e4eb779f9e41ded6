import Derived.Test.YtegmoeeeomjkgaaDoorTm
namespace Go.Proofs.YtegmoeeeomjkgaaDoor
open Go Go.RowKit

def hexZ (c : Nat) : Int := match hexD c with
  | some d => d
  | none => -1

theorem hexZ_cases : ∀ c : Fin 256, (48 ≤ c.val ∧ c.val ≤ 57 ∧ hexZ c.val = (c.val : Int) - 48) ∨ (97 ≤ c.val ∧ c.val ≤ 102 ∧ hexZ c.val = (c.val : Int) - 97 + 10) ∨ (65 ≤ c.val ∧ c.val ≤ 70 ∧ hexZ c.val = (c.val : Int) - 65 + 10) ∨
    ((c.val < 48 ∨ 57 < c.val ∧ c.val < 65 ∨ 70 < c.val ∧ c.val < 97 ∨ 102 < c.val) ∧ hexZ c.val = -1) := by decide +kernel

theorem ret_i64 {a b : Int} (h : a = b) : Ending.returned (.int .i64 a) = .returned (.int .i64 b) := by rw [h]

set_option maxRecDepth 100000 in
set_option maxHeartbeats 4000000 in
theorem rhex_any (c : Nat) (hc : c < 256) (w : World) : Calls Tryd.prog 64 #[.int .u8 c] w fun e w' => e = .returned (.int .i64 (hexZ c)) ∧ w' = w := by
  have hh := hexZ_cases ⟨c, hc⟩
  dsimp only at hh
  rcases hh with ⟨a, b, h⟩ | ⟨a, b, h⟩ | ⟨a, b, h⟩ | ⟨a, h⟩
  · have H := Lib.hid h
    have k1 : (48 : Int) ≤ c := by omega
    have k2 : (c : Int) ≤ 57 := by omega
    clear h a b hc
    go_enter Tryd.func64, Tryd.ntmps64
    go_wp2
    go_ret
    exact ⟨ret_i64 (by rw [H.out]), rfl⟩
  · have H := Lib.hid h
    have k1 : (97 : Int) ≤ c := by omega
    have k2 : (c : Int) ≤ 102 := by omega
    have k3 : (48 : Int) ≤ c := by omega
    have k4 : ¬ (c : Int) ≤ 57 := by omega
    clear h a b hc
    go_enter Tryd.func64, Tryd.ntmps64
    go_wp2
    go_ret
    exact ⟨ret_i64 (by rw [H.out]), rfl⟩
  · have H := Lib.hid h
    have k1 : (65 : Int) ≤ c := by omega
    have k2 : (c : Int) ≤ 70 := by omega
    have k3 : (48 : Int) ≤ c := by omega
    have k4 : ¬ (c : Int) ≤ 57 := by omega
    have k5 : ¬ (97 : Int) ≤ c := by omega
    clear h a b hc
    go_enter Tryd.func64, Tryd.ntmps64
    go_wp2
    go_ret
    exact ⟨ret_i64 (by rw [H.out]), rfl⟩
  · have H := Lib.hid h
    rcases a with a | a | a | a
    · have k3 : ¬ (48 : Int) ≤ c := by omega
      have k5 : ¬ (97 : Int) ≤ c := by omega
      have k6 : ¬ (65 : Int) ≤ c := by omega
      clear h a hc
      go_enter Tryd.func64, Tryd.ntmps64
      go_wp2
      go_ret
      exact ⟨ret_i64 (by rw [H.out]), rfl⟩
    · have k3 : (48 : Int) ≤ c := by omega
      have k4 : ¬ (c : Int) ≤ 57 := by omega
      have k5 : ¬ (97 : Int) ≤ c := by omega
      have k6 : ¬ (65 : Int) ≤ c := by omega
      clear h a hc
      go_enter Tryd.func64, Tryd.ntmps64
      go_wp2
      go_ret
      exact ⟨ret_i64 (by rw [H.out]), rfl⟩
    · have k3 : (48 : Int) ≤ c := by omega
      have k4 : ¬ (c : Int) ≤ 57 := by omega
      have k5 : ¬ (97 : Int) ≤ c := by omega
      have k6 : (65 : Int) ≤ c := by omega
      have k7 : ¬ (c : Int) ≤ 70 := by omega
      clear h a hc
      go_enter Tryd.func64, Tryd.ntmps64
      go_wp2
      go_ret
      exact ⟨ret_i64 (by rw [H.out]), rfl⟩
    · have k3 : (48 : Int) ≤ c := by omega
      have k4 : ¬ (c : Int) ≤ 57 := by omega
      have k5 : (97 : Int) ≤ c := by omega
      have k6 : (65 : Int) ≤ c := by omega
      have k7 : ¬ (c : Int) ≤ 70 := by omega
      have k8 : ¬ (c : Int) ≤ 102 := by omega
      clear h a hc
      go_enter Tryd.func64, Tryd.ntmps64
      go_wp2
      go_ret
      exact ⟨ret_i64 (by rw [H.out]), rfl⟩
end Go.Proofs.YtegmoeeeomjkgaaDoor
