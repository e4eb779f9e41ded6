import Derived.Test.YtmlkeddiagmedaaNth
namespace Go.Proofs.Ytmlkeddiagmedaa
open Go.RowKit

set_option maxHeartbeats 400000 in
theorem place_long (s : ByteArray) (l c : Int) (w : World) (h : 1048576 < s.size) (hs : s.size ≤ 140737488351232) :
    Calls Try.prog 11 #[.string s, .agg #[.int .i64 l, .int .i64 c]] w fun e w' => e = .returned (.tuple #[.int .i64 0, .int .i64 3]) ∧ Below w.heap.size w w' := by
  go_enter Try.func11, Try.ntmps11
  go_wp2
  go_ret2
  exact ⟨rfl, (Below.refl _ _).alloc (Nat.le_refl _) _⟩

def PlaceOk (s : ByteArray) (l c p : Int) : Prop := ∃ (k : Nat) (x : Nat × Nat), l = k + 1 ∧ (spansAt s 0)[k]? = some x ∧ 1 ≤ c ∧ c ≤ (x.2 : Int) - x.1 + 1 ∧ p = x.1 + c - 1
def PlaceNo (s : ByteArray) (l c : Int) : Prop := (l < 1 ∨ (spansAt s 0).length < l) ∨ ∃ (k : Nat) (x : Nat × Nat), l = k + 1 ∧ (spansAt s 0)[k]? = some x ∧ (c < 1 ∨ (x.2 : Int) - x.1 + 1 < c)
def placePost (s : ByteArray) (l c : Int) (w : World) (e : Ending) (w' : World) : Prop :=
  Below w.heap.size w w' ∧ ((∃ p, PlaceOk s l c p ∧ e = .returned (.tuple #[.int .i64 p, .int .i64 0])) ∨ (PlaceNo s l c ∧ e = .returned (.tuple #[.int .i64 0, .int .i64 4])))

set_option maxHeartbeats 400000 in
theorem place_any (s : ByteArray) (l c : Int) (w : World) (h : s.size ≤ 1048576) :
    Calls Try.prog 11 #[.string s, .agg #[.int .i64 l, .int .i64 c]] w (placePost s l c w) := by
  have HN := Lib.hid (nthLine_any s (by omega) l (w.alloc (.cells #[.int .i64 l, .int .i64 c] 23)))
  go_enter Try.func11, Try.ntmps11
  go_wp2_with fail
  refine HN.out.mono ?_
  rintro e w1 ⟨hb, hr⟩
  obtain ⟨hcc, hff⟩ : (∀ i v, (#[Value.int .i64 l, Value.int .i64 c])[i]? = some v → w1.cell? ⟨w.heap.size, i, none⟩ = some v) ∧ w.heap.size + 1 ≤ w1.heap.size := by
    refine ⟨fun i v hv => ?_, by have := hb.size; simpa using this⟩
    have := (Blk.new w 23 #[.int .i64 l, .int .i64 c]).below hb (by simp)
    rw [this.cell i]; exact hv
  have k1 : w1.cell? ⟨w.heap.size, 1, none⟩ = some (.int .i64 c) := hcc 1 _ rfl
  have k2 : ∀ o, (w1.alloc o).cell? ⟨w.heap.size, 1, none⟩ = some (.int .i64 c) := fun o => ((Below.refl _ w1).alloc (Nat.le_refl _) o |>.cell (p := ⟨w.heap.size, 1, none⟩) (by show w.heap.size < _; omega)).trans k1
  clear hcc
  have hB : Below w.heap.size w w1 := ((Below.refl _ w).alloc (Nat.le_refl _) _).trans (hb.mono (by simp))
  clear hb
  rcases hr with ⟨k, x, hk, hx, rfl⟩ | ⟨hno, rfl⟩
  · obtain ⟨b1, b2⟩ := spansAt_bd s x (List.mem_of_getElem? hx)
    have hx' := Lib.hid hx
    have hk' := Lib.hid hk
    clear hx hk
    obtain ⟨f, u⟩ := x
    dsimp only [spanV] at *
    by_cases c1 : c < 1
    · go_wp2
      go_ret2
      exact ⟨hB.alloc hB.size _, .inr ⟨.inr ⟨k, _, hk'.out, hx'.out, .inl c1⟩, rfl⟩⟩
    · by_cases c2 : (u : Int) - f + 1 < c
      · go_wp2
        go_ret2
        exact ⟨hB.alloc hB.size _, .inr ⟨.inr ⟨k, _, hk'.out, hx'.out, .inr c2⟩, rfl⟩⟩
      · go_wp2
        go_ret2
        exact ⟨hB.alloc hB.size _, .inl ⟨_, ⟨k, _, hk'.out, hx'.out, by omega, by simp; omega, rfl⟩, rfl⟩⟩
  · dsimp only [spanV] at *
    have hno' := Lib.hid hno
    clear hno
    go_wp2
    go_ret2
    exact ⟨hB.alloc hB.size _, .inr ⟨.inl hno'.out, rfl⟩⟩

end Go.Proofs.Ytmlkeddiagmedaa
