import Derived.Test.YtmlkeddiagmedaaBef
import Derived.Test.YtmlkeddiagmedaaLongF
namespace Go.Proofs.Ytmlkeddiagmedaa
open Go.RowKit

/-- Do two spans meet, as the law asks? -/
def OverP (f u f' u' : Int) : Prop :=
  (f = u ∧ f' = u' ∧ f = f') ∨ (f = u ∧ f' ≠ u' ∧ f' < f ∧ f < u') ∨ (f ≠ u ∧ f' = u' ∧ f < f' ∧ f' < u) ∨ (f ≠ u ∧ f' ≠ u' ∧ f < u' ∧ f' < u)

theorem over_sym {n : Int} {x y : Ed} (gx : goodEd n x) (gy : goodEd n y) : OverP x.1 x.2.1 y.1 y.2.1 ↔ ¬ SymBef x y := by
  unfold goodEd at gx gy
  unfold OverP SymBef Bef
  omega

def overPost (f u f' u' : Int) (w : World) (e : Ending) (w' : World) : Prop :=
  Below w.heap.size w w' ∧ ((OverP f u f' u' ∧ e = .returned (.bool true)) ∨ (¬ OverP f u f' u' ∧ e = .returned (.bool false)))

set_option maxHeartbeats 1000000 in
theorem over_any (f u f' u' : Int) (w : World) : Calls Try.prog 36 #[.agg #[.int .i64 f, .int .i64 u], .agg #[.int .i64 f', .int .i64 u']] w (overPost f u f' u' w) := by
  have hfin : ∀ (b : Bool), (b = true ↔ OverP f u f' u') → overPost f u f' u' w (.returned (.bool b)) ((w.alloc (.cells #[.int .i64 f, .int .i64 u] 35)).alloc (.cells #[.int .i64 f', .int .i64 u'] 35)) := by
    intro b hb
    refine ⟨((Below.refl _ _).alloc (Nat.le_refl _) _).alloc (by simp) _, ?_⟩
    cases b with
    | true => exact .inl ⟨hb.1 rfl, rfl⟩
    | false => exact .inr ⟨fun h => Bool.noConfusion (hb.2 h), rfl⟩
  by_cases e1 : f = u
  · have t1 : (f == u) = true := by simpa using e1
    by_cases e2 : f' = u'
    · have t2 : (f' == u') = true := by simpa using e2
      by_cases e3 : f = f'
      · have t3 : (f == f') = true := by simpa using e3
        have H := Lib.hid (hfin true (by unfold OverP; simp; omega))
        clear hfin e1 e2 e3
        go_enter Try.func36, Try.ntmps36
        go_wp2
        go_ret
        exact H.out
      · have t3 : (f == f') = false := by simpa using e3
        have H := Lib.hid (hfin false (by unfold OverP; simp; omega))
        clear hfin e1 e2 e3
        go_enter Try.func36, Try.ntmps36
        go_wp2
        go_ret
        exact H.out
    · have t2 : (f' == u') = false := by simpa using e2
      by_cases c1 : f' < f
      · by_cases c2 : f < u'
        · have H := Lib.hid (hfin true (by unfold OverP; simp; omega))
          clear hfin e1 e2
          go_enter Try.func36, Try.ntmps36
          go_wp2
          go_ret
          exact H.out
        · have H := Lib.hid (hfin false (by unfold OverP; simp; omega))
          clear hfin e1 e2
          go_enter Try.func36, Try.ntmps36
          go_wp2
          go_ret
          exact H.out
      · have H := Lib.hid (hfin false (by unfold OverP; simp; omega))
        clear hfin e1 e2
        go_enter Try.func36, Try.ntmps36
        go_wp2
        go_ret
        exact H.out
  · have t1 : (f == u) = false := by simpa using e1
    by_cases e2 : f' = u'
    · have t2 : (f' == u') = true := by simpa using e2
      by_cases c1 : f < f'
      · by_cases c2 : f' < u
        · have H := Lib.hid (hfin true (by unfold OverP; simp; omega))
          clear hfin e1 e2
          go_enter Try.func36, Try.ntmps36
          go_wp2
          go_ret
          exact H.out
        · have H := Lib.hid (hfin false (by unfold OverP; simp; omega))
          clear hfin e1 e2
          go_enter Try.func36, Try.ntmps36
          go_wp2
          go_ret
          exact H.out
      · have H := Lib.hid (hfin false (by unfold OverP; simp; omega))
        clear hfin e1 e2
        go_enter Try.func36, Try.ntmps36
        go_wp2
        go_ret
        exact H.out
    · have t2 : (f' == u') = false := by simpa using e2
      by_cases c1 : f < u'
      · by_cases c2 : f' < u
        · have H := Lib.hid (hfin true (by unfold OverP; simp; omega))
          clear hfin e1 e2
          go_enter Try.func36, Try.ntmps36
          go_wp2
          go_ret
          exact H.out
        · have H := Lib.hid (hfin false (by unfold OverP; simp; omega))
          clear hfin e1 e2
          go_enter Try.func36, Try.ntmps36
          go_wp2
          go_ret
          exact H.out
      · have H := Lib.hid (hfin false (by unfold OverP; simp; omega))
        clear hfin e1 e2
        go_enter Try.func36, Try.ntmps36
        go_wp2
        go_ret
        exact H.out

end Go.Proofs.Ytmlkeddiagmedaa
