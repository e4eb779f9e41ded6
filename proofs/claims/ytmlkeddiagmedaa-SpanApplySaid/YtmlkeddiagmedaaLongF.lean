import Derived.Test.YtmlkeddiagmedaaArgs
namespace Go.Proofs.Ytmlkeddiagmedaa
open Go.RowKit

def LongP (s : ByteArray) (d : List Ed) : Prop := 3000 < s.size ∨ 20 < d.length ∨ ∃ x ∈ d, 3000 < x.2.2.size
def longPost (s : ByteArray) (d : List Ed) (w : World) (e : Ending) (w' : World) : Prop :=
  w = w' ∧ ((LongP s d ∧ e = .returned (.bool true)) ∨ (¬ LongP s d ∧ e = .returned (.bool false)))

set_option maxHeartbeats 1000000 in
theorem long_any (s : ByteArray) (a : Option Addr) (cap : Nat) (d : List Ed) (w : World) (hd : RowEd w a d) :
    Calls Try.prog 15 #[.string s, .slice a d.length cap] w (longPost s d w) := by
  by_cases h1 : 3000 < s.size
  · go_enter Try.func15, Try.ntmps15
    go_wp2
    go_ret
    exact ⟨rfl, .inl ⟨.inl h1, rfl⟩⟩
  · by_cases h2 : 20 < d.length
    · go_enter Try.func15, Try.ntmps15
      go_wp2
      go_ret
      exact ⟨rfl, .inl ⟨.inr (.inl h2), rfl⟩⟩
    · go_enter Try.func15, Try.ntmps15
      go_wp2
      go_loop [5] (fun p => ∃ k : Nat, p = .int .i64 k ∧ k ≤ d.length ∧ Hid (∀ x ∈ d.take k, x.2.2.size ≤ 3000)) (fun p => d.length - (intOf p).toNat)
      case atStart => exact ⟨0, rfl, Nat.zero_le _, fun x hx => by simp at hx⟩
      case round =>
        obtain ⟨k, rfl, hk, hE⟩ := hrel
        by_cases hlt : k < d.length
        · obtain ⟨x, hx⟩ : ∃ x, d[k]? = some x := ⟨d[k], by simp [hlt]⟩
          obtain ⟨b, off, rfl, x0, x1, x2⟩ := hd _ _ hx
          have HX := Lib.hid hx
          have HD := Lib.hid hd
          clear x0 x1 hx hd
          by_cases hc : 3000 < x.2.2.size
          · go_wp2
            go_ret
            exact ⟨rfl, .inl ⟨.inr (.inr ⟨x, List.mem_of_getElem? HX.out, hc⟩), rfl⟩⟩
          · have hE2 : Hid (∀ x ∈ d.take (k + 1), x.2.2.size ≤ 3000) := by
              intro y hy
              rw [List.take_add_one, HX.out] at hy
              rcases List.mem_append.1 hy with h | h
              · exact hE.out y h
              · simp at h; subst h; omega
            go_wp2
            go_round
            case rel => exact ⟨k + 1, by go_num, by omega, hE2⟩
            case measure => simp [intOf]; omega
        · have hno : ¬ LongP s d := by
            rintro (h | h | ⟨x, hx, h⟩)
            · exact h1 h
            · exact h2 h
            · have := hE.out x (by rw [List.take_of_length_le (by omega)]; exact hx)
              omega
          go_wp2
          go_ret
          exact ⟨rfl, .inr ⟨hno, rfl⟩⟩

end Go.Proofs.Ytmlkeddiagmedaa
