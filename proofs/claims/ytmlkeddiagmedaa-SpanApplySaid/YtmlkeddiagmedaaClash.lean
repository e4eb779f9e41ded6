import Derived.Test.YtmlkeddiagmedaaMay
namespace Go.Proofs.Ytmlkeddiagmedaa
open Go.RowKit

def Clash (d : List Ed) : Prop := ∃ (i k : Nat) (x y : Ed), k < i ∧ d[i]? = some x ∧ d[k]? = some y ∧ OverP x.1 x.2.1 y.1 y.2.1
def clashPost (d : List Ed) (w : World) (e : Ending) (w' : World) : Prop :=
  Below w.heap.size w w' ∧ ((Clash d ∧ e = .returned (.bool true)) ∨ (¬ Clash d ∧ e = .returned (.bool false)))

theorem over_bool (f u f' u' : Int) (w : World) : Calls Try.prog 36 #[.agg #[.int .i64 f, .int .i64 u], .agg #[.int .i64 f', .int .i64 u']] w (fun e w' => Below w.heap.size w w' ∧ ∃ v : Bool, e = .returned (.bool v) ∧ (v = true ↔ OverP f u f' u')) := by
  refine (over_any f u f' u' w).mono ?_
  rintro e w' ⟨hB, ⟨h, rfl⟩ | ⟨h, rfl⟩⟩
  · exact ⟨hB, true, rfl, by simpa using h⟩
  · exact ⟨hB, false, rfl, by simpa using h⟩

set_option maxHeartbeats 2000000 in
theorem clash_any (a : Option Addr) (cap : Nat) (d : List Ed) (w : World) (hd : RowEd w a d) (hl : d.length ≤ 1048576) :
    Calls Try.prog 19 #[.slice a d.length cap] w (clashPost d w) := by
  go_enter Try.func19, Try.ntmps19
  go_wp2
  go_loopw [3] (fun p wr => ∃ i : Nat, p = .int .i64 i ∧ i ≤ d.length ∧ Hid (∀ j k x y, j < i → k < j → d[j]? = some x → d[k]? = some y → ¬ OverP x.1 x.2.1 y.1 y.2.1) ∧ Hid (Below w.heap.size w wr)) (fun p _ => d.length - (intOf p).toNat)
  case atStart => exact ⟨0, rfl, Nat.zero_le _, (fun j k x y h => by omega), Below.refl _ _⟩
  case round =>
    obtain ⟨i, rfl, hi, hE, hB⟩ := hrel
    by_cases hlt : i < d.length
    · obtain ⟨x, hx⟩ : ∃ x, d[i]? = some x := ⟨d[i], by simp [hlt]⟩
      obtain ⟨b, off, rfl, x0, x1, x2⟩ := hd _ _ hx
      have hb := lt_of_cell x0
      have HX := Lib.hid hx
      have HC0 := Lib.hid (And.intro x0 x1)
      have hid' : (i : Int) < (d.length : Int) := by omega
      clear x0 x1 x2 hx
      obtain ⟨wo, rfl⟩ : ∃ wo : World, wo = wr := ⟨_, rfl⟩
      have HD := Lib.hid hd
      clear hd
      go_wp2_with fail
      go_loopw [4] (fun p wr => ∃ k : Nat, p = .int .i64 k ∧ k ≤ i ∧ Hid (∀ m y, m < k → d[m]? = some y → ¬ OverP x.1 x.2.1 y.1 y.2.1) ∧ Hid (Below w.heap.size w wr)) (fun p _ => i - (intOf p).toNat)
      case atStart => exact ⟨0, rfl, Nat.zero_le _, (fun m y h => by omega), hB⟩
      case round =>
        clear hB
        obtain ⟨k, rfl, hk, hE1, hB⟩ := hrel
        by_cases hki : k < i
        · obtain ⟨y, hy⟩ : ∃ y, d[k]? = some y := ⟨d[k]'(by omega), by simp [show k < d.length by omega]⟩
          obtain ⟨b', off', hab, y0, y1, y2⟩ := HD.out _ _ hy
          cases hab
          have cx0 : wr.cell? ⟨b, off + i * 3, none⟩ = some (.int .i64 x.1) := (hB.out.cell (p := ⟨b, _, none⟩) hb).trans HC0.out.1
          have cx1 : wr.cell? ⟨b, off + i * 3 + 1, none⟩ = some (.int .i64 x.2.1) := (hB.out.cell (p := ⟨b, _, none⟩) hb).trans HC0.out.2
          have cy0 : wr.cell? ⟨b, off + k * 3, none⟩ = some (.int .i64 y.1) := (hB.out.cell (p := ⟨b, _, none⟩) hb).trans y0
          have cy1 : wr.cell? ⟨b, off + k * 3 + 1, none⟩ = some (.int .i64 y.2.1) := (hB.out.cell (p := ⟨b, _, none⟩) hb).trans y1
          have HY := Lib.hid hy
          have hkd : (k : Int) < (d.length : Int) := by omega
          have hbw : b < wr.heap.size := lt_of_cell cx0
          have HO := Lib.hid (fun W => over_bool x.1 x.2.1 y.1 y.2.1 W)
          have i0 : (0 : Int) ≤ (i : Int) := Int.natCast_nonneg _
          have k0 : (0 : Int) ≤ (k : Int) := Int.natCast_nonneg _
          clear y0 y1 y2 hy
          go_wp2_with fail
          go_region_held3 (fun W => W.cell? ⟨b, off + i * 3, none⟩ = some (.int .i64 x.1) ∧ W.cell? ⟨b, off + i * 3 + 1, none⟩ = some (.int .i64 x.2.1) ∧ W.cell? ⟨b, off + k * 3, none⟩ = some (.int .i64 y.1) ∧ W.cell? ⟨b, off + k * 3 + 1, none⟩ = some (.int .i64 y.2.1)) (go_keep)
            (first | (go_at_call 36; refine (HO.out _).mono ?_; rintro e w' ⟨hBo, v, rfl, hv⟩; have e0 := (hBo.cell (p := ⟨b, off + i * 3, none⟩) hbw).trans cx0; have e1 := (hBo.cell (p := ⟨b, off + i * 3 + 1, none⟩) hbw).trans cx1; have e2 := (hBo.cell (p := ⟨b, off + k * 3, none⟩) hbw).trans cy0; have e3 := (hBo.cell (p := ⟨b, off + k * 3 + 1, none⟩) hbw).trans cy1))
          have hB2 : Hid (Below w.heap.size w w') := hB.out.drew.trans (hBo.mono (show w.heap.size ≤ wr.drew.heap.size from hB.out.size))
          clear hBo e0 e1 e2 e3 cx0 cx1 cy0 cy1 HO hB
          cases v with
          | true =>
            have hO := Lib.hid (hv.1 rfl)
            clear hv
            go_wp2
            go_ret
            exact ⟨hB2.out, .inl ⟨⟨i, k, x, y, hki, HX.out, HY.out, hO.out⟩, rfl⟩⟩
          | false =>
            have hE2 : Hid (∀ m z, m < k + 1 → d[m]? = some z → ¬ OverP x.1 x.2.1 z.1 z.2.1) := by
              intro m z hm hz
              by_cases h : m < k
              · exact hE1.out m z h hz
              · obtain rfl : m = k := by omega
                rw [HY.out] at hz
                cases hz
                exact fun h => Bool.noConfusion (hv.2 h)
            clear hv
            go_wp2
            go_roundw
            case rel => exact ⟨k + 1, by go_num, by omega, hE2, hB2⟩
            case measure => simp [intOf]; omega
        · have hE2 : Hid (∀ j k x y, j < i + 1 → k < j → d[j]? = some x → d[k]? = some y → ¬ OverP x.1 x.2.1 y.1 y.2.1) := by
            intro j m y z hj hm hy hz
            by_cases h : j < i
            · exact hE.out j m y z h hm hy hz
            · obtain rfl : j = i := by omega
              rw [HX.out] at hy
              cases hy
              exact hE1.out m z (by omega) hz
          go_wp2
          go_roundw
          case rel => exact ⟨i + 1, by go_num, by omega, hE2, hB⟩
          case measure => simp [intOf]; omega
    · have hno : Hid (¬ Clash d) := by
        rintro ⟨j, k, x, y, hk, hx, hy, ho⟩
        have := (List.getElem?_eq_some_iff.1 hx).1
        exact hE.out j k x y (by omega) hk hx hy ho
      go_wp2
      go_ret
      exact ⟨hB.out, .inr ⟨hno.out, rfl⟩⟩

end Go.Proofs.Ytmlkeddiagmedaa
