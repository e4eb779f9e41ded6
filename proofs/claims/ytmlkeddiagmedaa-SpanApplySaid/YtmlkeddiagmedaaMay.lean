import Derived.Test.YtmlkeddiagmedaaOver
import Derived.Test.YtmlkeddiagmedaaDiff
import Derived.Deep.RegionHeld3
namespace Go.Proofs.Ytmlkeddiagmedaa
open Go.RowKit

def mayPost (n : Int) (d : List Ed) (w : World) (e : Ending) (w' : World) : Prop :=
  (∃ k, w' = w.drewN k) ∧ (((∀ x ∈ d, goodEd n x) ∧ e = .returned (.bool true)) ∨ (¬ (∀ x ∈ d, goodEd n x) ∧ e = .returned (.bool false)))

set_option maxHeartbeats 1000000 in
theorem may_any (n : Int) (a : Option Addr) (cap : Nat) (d : List Ed) (w : World) (hd : RowEd w a d) (hl : d.length ≤ 1048576) :
    Calls Try.prog 18 #[.int .i64 n, .slice a d.length cap] w (mayPost n d w) := by
  go_enter Try.func18, Try.ntmps18
  go_wp2
  go_loopw [5] (fun p wr => ∃ k : Nat, p = .int .i64 k ∧ k ≤ d.length ∧ Hid (∀ x ∈ d.take k, goodEd n x) ∧ Hid (∃ m, wr = w.drewN m)) (fun p _ => d.length - (intOf p).toNat)
  case atStart => exact ⟨0, rfl, Nat.zero_le _, (fun x hx => by simp at hx), ⟨0, rfl⟩⟩
  case round =>
    obtain ⟨k, rfl, hk, hE, hW⟩ := hrel
    by_cases hlt : k < d.length
    · obtain ⟨x, hx⟩ : ∃ x, d[k]? = some x := ⟨d[k], by simp [hlt]⟩
      obtain ⟨b, off, rfl, x0, x1, x2⟩ := hd _ _ hx
      obtain ⟨m, hm⟩ := hW.out
      have cx0 : wr.cell? ⟨b, off + k * 3, none⟩ = some (.int .i64 x.1) := by rw [hm]; exact x0
      have cx1 : wr.cell? ⟨b, off + k * 3 + 1, none⟩ = some (.int .i64 x.2.1) := by rw [hm]; exact x1
      have HX := Lib.hid hx
      have HD := Lib.hid hd
      have hkd : (k : Int) < (d.length : Int) := by omega
      have hmem : Hid (x ∈ d) := List.mem_of_getElem? hx
      clear x0 x1 x2 hx hd hm
      by_cases c0 : x.1 < 0
      · have t0 : decide (x.1 < 0) = true := by simpa using c0
        go_wp2_with fail
        go_quiet (fail)
        clear t0
        go_wp2
        go_ret
        exact ⟨drewN_more hW.out _, .inr ⟨fun h => by have := h x hmem.out; unfold goodEd at this; omega, rfl⟩⟩
      · by_cases c1 : x.2.1 < x.1
        · have t0 : decide (x.1 < 0) = false := by simpa using c0
          have t1 : decide (x.2.1 < x.1) = true := by simpa using c1
          go_wp2_with fail
          go_quiet (fail)
          clear t0 t1
          go_wp2
          go_ret
          exact ⟨drewN_more hW.out _, .inr ⟨fun h => by have := h x hmem.out; unfold goodEd at this; omega, rfl⟩⟩
        · by_cases c2 : n < x.2.1
          · have t0 : decide (x.1 < 0) = false := by simpa using c0
            have t1 : decide (x.2.1 < x.1) = false := by simpa using c1
            have t2 : decide (n < x.2.1) = true := by simpa using c2
            go_wp2_with fail
            go_quiet (fail)
            clear t0 t1 t2
            go_wp2
            go_ret
            exact ⟨drewN_more hW.out _, .inr ⟨fun h => by have := h x hmem.out; unfold goodEd at this; omega, rfl⟩⟩
          · have t0 : decide (x.1 < 0) = false := by simpa using c0
            have t1 : decide (x.2.1 < x.1) = false := by simpa using c1
            have t2 : decide (n < x.2.1) = false := by simpa using c2
            have hE2 : Hid (∀ x ∈ d.take (k + 1), goodEd n x) := by
              intro y hy
              rw [List.take_add_one, HX.out] at hy
              rcases List.mem_append.1 hy with h | h
              · exact hE.out y h
              · simp at h; subst h; unfold goodEd; omega
            go_wp2_with fail
            go_quiet (fail)
            clear t0 t1 t2
            go_wp2
            go_roundw
            case rel => exact ⟨k + 1, by go_num, by omega, hE2, drewN_more hW.out _⟩
            case measure => simp [intOf]; omega
    · have hall : ∀ x ∈ d, goodEd n x := fun x hx => hE.out x (by rw [List.take_of_length_le (by omega)]; exact hx)
      have HALL := Lib.hid hall
      clear hall
      go_wp2
      go_ret
      exact ⟨hW.out, .inl ⟨HALL.out, rfl⟩⟩

end Go.Proofs.Ytmlkeddiagmedaa
