import Derived.Test.YtmlkeddiagmedaaA
import Derived.Test.YtmlkeddiagmedaaLib
import Derived.RegionTactic
import Derived.BigRegion
import Derived.Deep.QuietTactic
import Derived.BigQuiet
import Derived.IntWalk
import Derived.Deep.RegionWith
namespace Go.Proofs.Ytmlkeddiagmedaa
open Go.RowKit

/-- k bytes are what both begin with, and no more. -/
def IsCB (a b : List UInt8) (k : Nat) : Prop := k ≤ a.length ∧ k ≤ b.length ∧ (∀ i, i < k → a[i]? = b[i]?) ∧ (k < a.length → k < b.length → a[k]? ≠ b[k]?)

theorem byteAt (s : ByteArray) (k : Nat) (h : k < s.size) : s.data.toList[k]? = some s[k] := by
  rw [List.getElem?_eq_getElem (by simpa using h)]
  rfl

theorem drewN_more {w wr : World} (h : ∃ n, wr = w.drewN n) (m : Nat) : ∃ n, wr.drewN m = w.drewN n := by
  obtain ⟨n, rfl⟩ := h
  exact ⟨n + m, by simp [World.drewN, Nat.add_assoc]⟩

def cbPost (a b : ByteArray) (w : World) (e : Ending) (w' : World) : Prop :=
  (∃ n, w' = w.drewN n) ∧ ∃ k : Nat, IsCB a.data.toList b.data.toList k ∧ e = .returned (.int .i64 k)

set_option maxHeartbeats 1000000 in
theorem commonBegin_any (a b : ByteArray) (w : World) (ha : a.size ≤ 140737488351232) :
    Calls Try.prog 37 #[.string a, .string b] w (cbPost a b w) := by
  go_enter Try.func37, Try.ntmps37
  go_wp2
  go_loopw [5] (fun p wr => ∃ k : Nat, p = .int .i64 k ∧ k ≤ a.size ∧ k ≤ b.size ∧ Hid (∀ i, i < k → a.data.toList[i]? = b.data.toList[i]?) ∧ Hid (∃ n, wr = w.drewN n))
    (fun p _ => a.size - (intOf p).toNat)
  case atStart => exact ⟨0, rfl, Nat.zero_le _, Nat.zero_le _, (fun i h => by omega), ⟨0, rfl⟩⟩
  case round =>
    obtain ⟨k, rfl, hka, hkb, hE, hW⟩ := hrel
    by_cases hlt : k < a.size ∧ k < b.size
    · obtain ⟨h1, h2⟩ := hlt
      have j1 : (k : Int) < (a.size : Int) := by omega
      have j2 : (k : Int) < (b.size : Int) := by omega
      have j3 : decide ((k : Int) < min (a.size : Int) (b.size : Int)) = true := by simp; omega
      by_cases hc : a[k] = b[k]
      · have hc1 : ((a[k].toNat : Int) == (b[k].toNat : Int)) = true := by rw [hc]; simp
        have hE2 : Hid (∀ i, i < k + 1 → a.data.toList[i]? = b.data.toList[i]?) := by
          intro i hi
          by_cases h : i < k
          · exact hE.out i h
          · obtain rfl : i = k := by omega
            rw [byteAt a i h1, byteAt b i h2, hc]
        go_wp2_with fail
        go_quiet (fail)
        go_wp2
        go_roundw
        case rel => exact ⟨k + 1, by go_num, by omega, by omega, hE2, drewN_more hW.out _⟩
        case measure => simp [intOf]; omega
      · have hc1 : ((a[k].toNat : Int) == (b[k].toNat : Int)) = false := by
          have : a[k].toNat ≠ b[k].toNat := fun h => hc (UInt8.toNat_inj.1 h)
          rw [beq_eq_false_iff_ne]; omega
        go_wp2_with fail
        go_quiet (fail)
        go_wp2
        go_ret
        exact ⟨drewN_more hW.out _, k, ⟨by simpa using hka, by simpa using hkb, hE.out, fun _ _ => by rw [byteAt a k h1, byteAt b k h2]; simpa using hc⟩, rfl⟩
    · have j3 : decide ((k : Int) < min (a.size : Int) (b.size : Int)) = false := by simp; omega
      go_wp2_with fail
      go_quiet (fail)
      go_wp2
      go_ret
      exact ⟨drewN_more hW.out _, k, ⟨by simpa using hka, by simpa using hkb, hE.out, fun h1 h2 => by simp at h1 h2; omega⟩, rfl⟩

/-- k bytes are what both end with, and no more. -/
def IsCE (a b : List UInt8) (k : Nat) : Prop := k ≤ a.length ∧ k ≤ b.length ∧ (∀ i, i < k → a[a.length - 1 - i]? = b[b.length - 1 - i]?) ∧ (k < a.length → k < b.length → a[a.length - 1 - k]? ≠ b[b.length - 1 - k]?)

def cePost (a b : ByteArray) (w : World) (e : Ending) (w' : World) : Prop :=
  (∃ n, w' = w.drewN n) ∧ ∃ k : Nat, IsCE a.data.toList b.data.toList k ∧ e = .returned (.int .i64 k)

set_option maxHeartbeats 1000000 in
theorem commonEnd_any (a b : ByteArray) (w : World) (ha : a.size ≤ 140737488351232) (hb : b.size ≤ 140737488351232) :
    Calls Try.prog 38 #[.string a, .string b] w (cePost a b w) := by
  go_enter Try.func38, Try.ntmps38
  go_wp2
  go_loopw [5] (fun p wr => ∃ k : Nat, p = .int .i64 k ∧ k ≤ a.size ∧ k ≤ b.size ∧ Hid (∀ i, i < k → a.data.toList[a.size - 1 - i]? = b.data.toList[b.size - 1 - i]?) ∧ Hid (∃ n, wr = w.drewN n))
    (fun p _ => a.size - (intOf p).toNat)
  case atStart => exact ⟨0, rfl, Nat.zero_le _, Nat.zero_le _, (fun i h => by omega), ⟨0, rfl⟩⟩
  case round =>
    obtain ⟨k, rfl, hka, hkb, hE, hW⟩ := hrel
    by_cases hlt : k < a.size ∧ k < b.size
    · obtain ⟨h1, h2⟩ := hlt
      have j3 : decide ((k : Int) < min (a.size : Int) (b.size : Int)) = true := by simp; omega
      obtain ⟨i, hi⟩ : ∃ i : Nat, i = a.size - 1 - k := ⟨_, rfl⟩
      obtain ⟨j, hj⟩ : ∃ j : Nat, j = b.size - 1 - k := ⟨_, rfl⟩
      have hi1 : i < a.size := by omega
      have hj1 : j < b.size := by omega
      have q1 : IntKind.i64.wrap ((a.size : Int) - 1) = (a.size : Int) - 1 := IntWalk.i64_in _ (by omega)
      have q2 : IntKind.i64.wrap ((a.size : Int) - 1 - k) = (i : Int) := by rw [IntWalk.i64_in _ (by omega)]; omega
      have q3 : IntKind.i64.wrap ((b.size : Int) - 1) = (b.size : Int) - 1 := IntWalk.i64_in _ (by omega)
      have q4 : IntKind.i64.wrap ((b.size : Int) - 1 - k) = (j : Int) := by rw [IntWalk.i64_in _ (by omega)]; omega
      have HI := Lib.hid hi
      have HJ := Lib.hid hj
      clear hi hj
      by_cases hc : a[i] = b[j]
      · have hc1 : ((a[i].toNat : Int) == (b[j].toNat : Int)) = true := by rw [hc]; simp
        have hE2 : Hid (∀ i, i < k + 1 → a.data.toList[a.size - 1 - i]? = b.data.toList[b.size - 1 - i]?) := by
          intro m hm
          by_cases h : m < k
          · exact hE.out m h
          · obtain rfl : m = k := by omega
            rw [← HI.out, ← HJ.out, byteAt a i hi1, byteAt b j hj1, hc]
        go_wp2_with fail
        go_quiet (fail)
        clear q1 q2 q3 q4
        go_wp2
        go_roundw
        case rel => exact ⟨k + 1, by go_num, by omega, by omega, hE2, drewN_more hW.out _⟩
        case measure => simp [intOf]; omega
      · have hc1 : ((a[i].toNat : Int) == (b[j].toNat : Int)) = false := by
          have : a[i].toNat ≠ b[j].toNat := fun h => hc (UInt8.toNat_inj.1 h)
          rw [beq_eq_false_iff_ne]; omega
        have hne : Hid (a.data.toList[a.size - 1 - k]? ≠ b.data.toList[b.size - 1 - k]?) := by
          show _ ≠ _
          rw [← HI.out, ← HJ.out, byteAt a i hi1, byteAt b j hj1]
          simpa using hc
        go_wp2_with fail
        go_quiet (fail)
        clear q1 q2 q3 q4
        go_wp2
        go_ret
        exact ⟨drewN_more hW.out _, k, ⟨by simpa using hka, by simpa using hkb, by simpa using hE.out, fun _ _ => by simpa using hne.out⟩, rfl⟩
    · have j3 : decide ((k : Int) < min (a.size : Int) (b.size : Int)) = false := by simp; omega
      go_wp2_with fail
      go_quiet (fail)
      go_wp2
      go_ret
      exact ⟨drewN_more hW.out _, k, ⟨by simpa using hka, by simpa using hkb, by simpa using hE.out, fun h1 h2 => by simp at h1 h2; omega⟩, rfl⟩

end Go.Proofs.Ytmlkeddiagmedaa
