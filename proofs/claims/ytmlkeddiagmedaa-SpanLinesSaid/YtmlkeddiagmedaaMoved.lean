import Derived.Test.YtmlkeddiagmedaaApp
namespace Go.Proofs.Ytmlkeddiagmedaa
open Go.RowKit

def xyzEd : Ed := (1, 2, ⟨#[88, 89, 90]⟩)

theorem ovl_one (x : Ed) : ¬ Ovl [x] := by
  rintro ⟨i, y, z, h1, h2, _⟩
  have := (List.getElem?_eq_some_iff.1 h2).1
  simp at this

set_option maxHeartbeats 1000000 in
theorem moved_known (a : Option Addr) (cap : Nat) (w : World) (hd : RowEd w a [xyzEd]) :
    Calls Try.prog 22 #[.int .i64 3, .slice a 1 cap] w fun e w' => e = .returned (.tuple #[.int .i64 5, .int .i64 0]) ∧ Below w.heap.size w w' := by
  have HT := Lib.hid (together_any 4611686018427387904 a cap [xyzEd] w hd (by simp))
  clear hd
  go_enter Try.func22, Try.ntmps22
  go_wp2_with fail
  refine HT.out.mono ?_
  rintro e w1 ⟨hB1, ⟨hno, rfl⟩ | ⟨hgood, sd, hperm, hsort, ⟨hov, rfl⟩ | ⟨hnov, a1, c1, hrow, hfresh, rfl⟩⟩⟩
  · exact absurd (fun x hx => by simp at hx; subst hx; simp [goodEd, xyzEd]) hno
  · have : sd = [xyzEd] := List.perm_singleton.1 hperm
    subst this
    exact absurd hov (ovl_one _)
  · have : sd = [xyzEd] := List.perm_singleton.1 hperm
    subst this
    obtain ⟨b, off, rfl, x0, x1, x2⟩ := hrow 0 xyzEd rfl
    have y0 : w1.cell? ⟨b, off, none⟩ = some (.int .i64 1) := x0
    have y1 : w1.cell? ⟨b, off + 1, none⟩ = some (.int .i64 2) := x1
    have y2 : w1.cell? ⟨b, off + 2, none⟩ = some (.string ⟨#[88, 89, 90]⟩) := x2
    have hb := lt_of_cell x0
    clear hgood hperm hsort hnov hfresh hrow x0 x1 x2 HT
    have HG := Lib.hid (fun W => growth_any 1 2 ⟨#[88, 89, 90]⟩ W (by omega) (by omega) (by omega) (by decide))
    go_wp2
    refine wp_loop_rounds 2 ?_
    rw [rounds_succ]
    go_wp2_with (go_at_call 35; refine (HG.out _).mono ?_; rintro e w2 ⟨rfl, hB2⟩)
    rw [rounds_succ]
    go_wp2
    go_ret2
    exact ⟨rfl, (hB1.alloc hB1.size _).trans (hB2.mono (by have := hB1.size; simp; omega))⟩

end Go.Proofs.Ytmlkeddiagmedaa
