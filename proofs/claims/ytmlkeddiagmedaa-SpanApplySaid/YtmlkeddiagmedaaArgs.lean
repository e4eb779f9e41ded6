import Derived.Test.YtmlkeddiagmedaaOvl
import Derived.Deep.Slices
import Derived.ProofKit
namespace Go.Proofs.Ytmlkeddiagmedaa
open Go.RowKit Go.Deep Go.ChangeShapes Go.WideShapes

theorem cells42 : Try.prog.cellsOf 42 = 3 := by kernel_rfl
theorem cells35 : Try.prog.cellsOf 35 = 2 := by kernel_rfl
theorem cells3 : Try.prog.cellsOf 3 = 1 := by kernel_rfl
theorem cells9 : Try.prog.cellsOf 9 = 1 := by kernel_rfl

variable {H : Type} {enc : TypeId × Value → H} {w : World} {base : Nat} {spare : Nat → Bool} {held : Bool}

set_option maxRecDepth 100000 in
/-- An Edit that reads as data: its three cells. -/
theorem ed_open {fuel : Nat} {cs : List Value} {x : DataW H × List MemPlace} (h : DataW.trod enc Try.prog w base spare held fuel 42 cs = some x) :
    ∃ e : Ed, cs = encEd e ∧ e.2.2.size ≤ maxLen := by
  obtain ⟨y0, y1, n, _, hl, h0, h1⟩ := trod_struct2 Try.underlying42 h
  obtain ⟨z0, z1, m, _, hl2, g0, g1⟩ := trod_struct2 Try.underlying35 h0
  rw [cells42] at hl
  match cs, hl with
  | [a, b, c], _ =>
    simp only [cells35, cells9, cells3, List.drop_zero, List.take_succ_cons, List.take_zero, List.drop_succ_cons] at h1 g0 g1
    obtain ⟨f, e0, _, _⟩ := DataW.trod_int Try.underlying3 g0
    obtain ⟨u, e1, _, _⟩ := DataW.trod_int Try.underlying3 g1
    obtain ⟨s, e2, _, hs⟩ := DataW.trod_string Try.underlying9 h1
    simp at e0 e1 e2
    subst e0 e1 e2
    exact ⟨(f, u, s), rfl, hs⟩

theorem cells_three {a : Addr} {x y z : Value} (h : w.cells? base a 3 = some [x, y, z]) : w.cell? a = some x ∧ w.cell? (a.add 1) = some y ∧ w.cell? (a.add 2) = some z := by
  unfold World.cells? at h
  split at h
  · have : List.range 3 = [0, 1, 2] := rfl
    rw [this] at h
    simp only [List.mapM_cons, List.mapM_nil] at h
    have ha : a.add 0 = a := rfl
    rw [ha] at h
    cases h0 : w.cell? a with
    | none => rw [h0] at h; cases h
    | some x' =>
      cases h1 : w.cell? (a.add 1) with
      | none => rw [h0, h1] at h; cases h
      | some y' =>
        cases h2 : w.cell? (a.add 2) with
        | none => rw [h0, h1, h2] at h; cases h
        | some z' =>
          rw [h0, h1, h2] at h
          cases h
          exact ⟨rfl, rfl, rfl⟩
  · cases h

/-- A slice of Edits that reads as data. -/
theorem eds_open {fuel : Nat} {a : Option Addr} {len cap : Nat} {x : DataW H × List MemPlace} (h : DataW.trod enc Try.prog w base spare held fuel 39 [.slice a len cap] = some x) :
    ∃ d : List Ed, d.length = len ∧ RowEd w a d ∧ len ≤ cap ∧ cap ≤ maxLen := by
  rcases open_slice Try.underlying39 h with ⟨h0, _⟩ | ⟨a', len', cap', m, n, D, Pl, hcs, _, hl, hm, hmm, _, hel⟩
  · simp at h0
    obtain ⟨rfl, rfl, rfl⟩ := h0
    exact ⟨[], rfl, fun i x hx => by simp at hx, Nat.le_refl _, by unfold maxLen; omega⟩
  · simp at hcs
    obtain ⟨rfl, rfl, rfl⟩ := hcs
    have hlm : len ≤ m := by rw [hmm]; split <;> omega
    have hall : ∀ i, i < len → ∃ e : Ed, w.cell? (a'.add (i * 3)) = some (.int .i64 e.1) ∧ w.cell? ((a'.add (i * 3)).add 1) = some (.int .i64 e.2.1) ∧ w.cell? ((a'.add (i * 3)).add 2) = some (.string e.2.2) := by
      intro i hi
      obtain ⟨cs', h1, h2⟩ := hel i (by omega)
      obtain ⟨e, rfl, _⟩ := ed_open h2
      rw [cells42] at h1
      exact ⟨e, cells_three h1⟩
    obtain ⟨f, hf⟩ := choose_lt hall
    refine ⟨(List.range len).map f, by simp, ?_, hl, hm⟩
    intro i x hx
    have hi : i < len := by
      have := (List.getElem?_eq_some_iff.1 hx).1
      simpa using this
    have hx' : f i = x := by
      rw [List.getElem?_map, List.getElem?_range hi] at hx
      simpa using hx
    obtain ⟨q0, q1, q2⟩ := hf i hi
    rw [hx'] at q0 q1 q2
    have hspot : a'.spot = none := by
      have := (hf 0 (by omega)).1
      have e0 : a'.add (0 * 3) = a' := rfl
      rw [e0] at this
      exact World.cell?_spot this
    obtain ⟨b, off, spot⟩ := a'
    simp only at hspot
    subst hspot
    refine ⟨b, off, rfl, ?_, ?_, ?_⟩
    · have e : (⟨b, off, none⟩ : Addr).add (i * 3) = ⟨b, off + i * 3, none⟩ := by
        unfold Addr.add; split
        · next h => rw [h]; rfl
        · rfl
      rw [e] at q0; exact q0
    · have e : ((⟨b, off, none⟩ : Addr).add (i * 3)).add 1 = ⟨b, off + i * 3 + 1, none⟩ := by
        rw [add_add]; unfold Addr.add; rw [if_neg (by omega)]; rfl
      rw [e] at q1; exact q1
    · have e : ((⟨b, off, none⟩ : Addr).add (i * 3)).add 2 = ⟨b, off + i * 3 + 2, none⟩ := by
        rw [add_add]; unfold Addr.add; rw [if_neg (by omega)]; rfl
      rw [e] at q2; exact q2

end Go.Proofs.Ytmlkeddiagmedaa
