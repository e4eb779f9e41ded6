import Derived.Test.YtmlkeddiagmedaaSort
import Derived.BigRegion
import Derived.WalkMore
namespace Go.Proofs.Ytmlkeddiagmedaa
open Go.RowKit

/-- An array of Edits lies at a. -/
def RowEd (w : World) (a : Option Addr) (d : List Ed) : Prop :=
  ∀ (i : Nat) (x : Ed), d[i]? = some x → ∃ b off, a = some ⟨b, off, none⟩ ∧ w.cell? ⟨b, off + i * 3, none⟩ = some (.int .i64 x.1) ∧ w.cell? ⟨b, off + i * 3 + 1, none⟩ = some (.int .i64 x.2.1) ∧ w.cell? ⟨b, off + i * 3 + 2, none⟩ = some (.string x.2.2)

theorem lt_of_cell {w : World} {b i : Nat} {v : Value} (h : w.cell? ⟨b, i, none⟩ = some v) : b < w.heap.size := by
  unfold World.cell? at h
  by_cases hb : b < w.heap.size
  · exact hb
  · simp [Array.getElem?_eq_none (Nat.le_of_not_lt hb)] at h

theorem RowEd.below {w w' : World} {a : Option Addr} {d : List Ed} (h : RowEd w a d) (hb : Below w.heap.size w w') : RowEd w' a d := by
  intro i x hx
  obtain ⟨b, off, ha, h0, h1, h2⟩ := h i x hx
  have hl := lt_of_cell h0
  exact ⟨b, off, ha, (hb.cell (p := ⟨b, _, none⟩) hl).trans h0, (hb.cell (p := ⟨b, _, none⟩) hl).trans h1, (hb.cell (p := ⟨b, _, none⟩) hl).trans h2⟩

def pairBad (x y : Ed) : Prop := y.1 < x.2.1 ∨ (y.1 = x.1 ∧ y.2.1 = x.2.1)
def Ovl (d : List Ed) : Prop := ∃ (i : Nat) (x y : Ed), d[i]? = some x ∧ d[i + 1]? = some y ∧ pairBad x y
def ovlPost (d : List Ed) (w : World) (e : Ending) (w' : World) : Prop :=
  Below w.heap.size w w' ∧ ((Ovl d ∧ e = .returned (.bool true)) ∨ (¬ Ovl d ∧ e = .returned (.bool false)))

set_option maxHeartbeats 1000000 in
theorem overlap_any (a : Option Addr) (cap : Nat) (d : List Ed) (w : World) (hd : RowEd w a d) (hl : d.length ≤ 140737488351232) :
    Calls Try.prog 61 #[.slice a d.length cap] w (ovlPost d w) := by
  go_enter Try.func61, Try.ntmps61
  go_wp2
  go_step3
  go_wp2
  go_step3
  go_wp2
  go_loopw [3, 4] (fun f p wr => ∃ k : Nat, f = .bool false ∧ 1 ≤ k ∧ p = .int .i64 k ∧ Hid (∀ i x y, i + 1 < k → d[i]? = some x → d[i + 1]? = some y → ¬ pairBad x y) ∧ Below w.heap.size w wr)
    (fun _ p _ => d.length - (intOf p).toNat)
  case atStart => exact ⟨1, rfl, Nat.le_refl _, rfl, (fun i x y h => by omega), Below.refl _ _⟩
  case round =>
    obtain ⟨k, rfl, hk, rfl, hp, hB⟩ := hrel
    by_cases hlt : k < d.length
    · obtain ⟨x, hx⟩ : ∃ x, d[k - 1]? = some x := ⟨d[k - 1], by simp⟩
      obtain ⟨y, hy⟩ : ∃ y, d[k]? = some y := ⟨d[k], by simp [hlt]⟩
      obtain ⟨b, off, rfl, x0, x1, x2⟩ := hd _ _ hx
      obtain ⟨b', off', hab, y0, y1, y2⟩ := hd _ _ hy
      cases hab
      have hb := lt_of_cell x0
      have cx0 : wr.cell? ⟨b, off + (k - 1) * 3, none⟩ = some (.int .i64 x.1) := (hB.cell (p := ⟨b, _, none⟩) hb).trans x0
      have cx1 : wr.cell? ⟨b, off + (k - 1) * 3 + 1, none⟩ = some (.int .i64 x.2.1) := (hB.cell (p := ⟨b, _, none⟩) hb).trans x1
      have cy0 : wr.cell? ⟨b, off + k * 3, none⟩ = some (.int .i64 y.1) := (hB.cell (p := ⟨b, _, none⟩) hb).trans y0
      have cy1 : wr.cell? ⟨b, off + k * 3 + 1, none⟩ = some (.int .i64 y.2.1) := (hB.cell (p := ⟨b, _, none⟩) hb).trans y1
      have hb2 : b < wr.heap.size := lt_of_cell cx0
      clear x0 x1 x2 y0 y1 y2 hd
      have HX := Lib.hid hx
      have HY := Lib.hid hy
      clear hx hy
      by_cases c1 : y.1 < x.2.1
      · go_wp2
        go_region
        all_goals go_wp2
        all_goals rw [Exit.noGoto_ret]
        all_goals go_ret
        all_goals exact ⟨((hB.alloc hB.size _).alloc (by have := hB.size; simp; omega) _).drew, .inl ⟨⟨k - 1, x, y, HX.out, by rw [show k - 1 + 1 = k by omega]; exact HY.out, .inl c1⟩, rfl⟩⟩
      · by_cases c2 : y.1 = x.1 ∧ y.2.1 = x.2.1
        · have e1 : (y.1 == x.1) = true := by simpa using c2.1
          have e2 : (y.2.1 == x.2.1) = true := by simpa using c2.2
          go_wp2
          go_region
          all_goals go_wp2
          all_goals rw [Exit.noGoto_ret]
          all_goals go_ret
          all_goals exact ⟨((hB.alloc hB.size _).alloc (by have := hB.size; simp; omega) _).drew, .inl ⟨⟨k - 1, x, y, HX.out, by rw [show k - 1 + 1 = k by omega]; exact HY.out, .inr c2⟩, rfl⟩⟩
        · have hp2 : Hid (∀ i x y, i + 1 < k + 1 → d[i]? = some x → d[i + 1]? = some y → ¬ pairBad x y) := by
            intro i x' y' hi hx' hy'
            by_cases hik : i + 1 < k
            · exact hp.out i x' y' hik hx' hy'
            · obtain rfl : i = k - 1 := by omega
              rw [HX.out] at hx'
              rw [show k - 1 + 1 = k by omega, HY.out] at hy'
              cases hx'; cases hy'
              rintro (h | h)
              · exact c1 h
              · exact c2 h
          go_wp2
          go_region
          all_goals go_wp2
          all_goals exact ⟨⟨k + 1, rfl, by omega, by go_num, hp2, ((hB.alloc hB.size _).alloc (by have := hB.size; simp; omega) _).drew⟩, by simp [intOf]; omega⟩
    · have hno : ¬ Ovl d := by
        rintro ⟨i, x, y, hx, hy, h⟩
        have := (List.getElem?_eq_some_iff.1 hy).1
        exact hp.out i x y (by omega) hx hy h
      go_wp2
      rw [Exit.noGoto_ret]
      go_ret
      exact ⟨hB, .inr ⟨hno, rfl⟩⟩

end Go.Proofs.Ytmlkeddiagmedaa
