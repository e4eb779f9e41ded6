import Derived.Laws.IdiomArrays
import Derived.OpenShut
import Derived.Test.YtegmoeeeomjkgaaDoorArg
import Derived.Test.YtegmoeeeomjkgaaDoorJn0
namespace Go.Proofs.YtegmoeeeomjkgaaDoor
open Go.RowKit Go.Deep Go.ChangeShapes Go.WideShapes

theorem cellsOf27 : Tryd.prog.cellsOf 27 = 1 := by kernel_rfl

variable {H : Type} {enc : TypeId × Value → H} {w : World} {base : Nat} {spare : Nat → Bool} {held : Bool}

theorem open_u64 {fuel : Nat} {v : Value} {x : DataW H × List MemPlace} (h : DataW.trod enc Tryd.prog w base spare held fuel 27 [v] = some x) : ∃ n : Int, v = .int .u64 n ∧ 0 ≤ n ∧ n < 18446744073709551616 := by
  obtain ⟨n, e, _, hw⟩ := DataW.trod_int Tryd.underlying27 h
  simp at e
  exact ⟨n, e, u64_rng hw⟩

set_option maxRecDepth 100000 in
/-- A set that reads as data. -/
theorem st_open {fuel : Nat} {cs : List Value} {x : DataW H × List MemPlace} (h : DataW.trod enc Tryd.prog w base spare held fuel 29 cs = some x) :
    ∃ s : BS, cs = [.int .u64 (wdI s 0), .int .u64 (wdI s 1), .int .u64 (wdI s 2), .int .u64 (wdI s 3)] := by
  obtain ⟨_, _, _, _, hl, _⟩ := DataW.trod_array Tryd.underlying29 h
  rw [cellsOf29] at hl
  match cs, hl with
  | [a, b, c, d], _ =>
    obtain ⟨_, _, _, _, n, _, h0, h1, h2, h3⟩ := trod_array4 Tryd.underlying29 cellsOf27 h
    obtain ⟨a, rfl, ra⟩ := open_u64 h0
    obtain ⟨b, rfl, rb⟩ := open_u64 h1
    obtain ⟨c, rfl, rc⟩ := open_u64 h2
    obtain ⟨d, rfl, rd⟩ := open_u64 h3
    obtain ⟨s, rfl, rfl, rfl, rfl⟩ := set_of_words a b c d ra rb rc rd
    exact ⟨s, rfl⟩

/-- A slice of sets that reads as data. -/
theorem sts_open {fuel : Nat} {a : Option Addr} {len cap : Nat} {x : DataW H × List MemPlace} (h : DataW.trod enc Tryd.prog w base spare held fuel 43 [.slice a len cap] = some x) :
    ∃ d : List BS, d.length = len ∧ RowB w a d ∧ len ≤ cap ∧ (a = none → cap = 0) := by
  rcases open_slice Tryd.underlying43 h with ⟨h0, _⟩ | ⟨a', len', cap', m, n, D, Pl, hcs, _, hl, hm, hmm, _, hel⟩
  · simp at h0
    obtain ⟨rfl, rfl, rfl⟩ := h0
    exact ⟨[], rfl, fun i x hx => by simp at hx, Nat.le_refl _, fun _ => rfl⟩
  · simp at hcs
    obtain ⟨rfl, rfl, rfl⟩ := hcs
    have hlm : len ≤ m := by rw [hmm]; split <;> omega
    have hall : ∀ i, i < len → ∃ s : BS, w.cell? (a'.add (i * 4)) = some (.int .u64 (wdI s 0)) ∧ w.cell? ((a'.add (i * 4)).add 1) = some (.int .u64 (wdI s 1)) ∧ w.cell? ((a'.add (i * 4)).add 2) = some (.int .u64 (wdI s 2)) ∧ w.cell? ((a'.add (i * 4)).add 3) = some (.int .u64 (wdI s 3)) := by
      intro i hi
      obtain ⟨cs', h1, h2⟩ := hel i (by omega)
      obtain ⟨s, rfl⟩ := st_open h2
      rw [cellsOf29] at h1
      exact ⟨s, cells_four h1⟩
    haveI : Inhabited BS := ⟨0#256⟩
    obtain ⟨f, hf⟩ := choose_lt hall
    refine ⟨(List.range len).map f, by simp, ?_, hl, fun e => by cases e⟩
    intro i x hx
    have hi : i < len := by
      have := (List.getElem?_eq_some_iff.1 hx).1
      simpa using this
    have hx' : f i = x := by
      rw [List.getElem?_map, List.getElem?_range hi] at hx
      simpa using hx
    obtain ⟨q0, q1, q2, q3⟩ := hf i hi
    rw [hx'] at q0 q1 q2 q3
    have hspot : a'.spot = none := by
      have := (hf 0 (by omega)).1
      have e0 : a'.add (0 * 4) = a' := rfl
      rw [e0] at this
      exact World.cell?_spot this
    obtain ⟨b, off, spot⟩ := a'
    simp only at hspot
    subst hspot
    rw [add_zero_off] at q0
    rw [add_add0, add_zero_off] at q1 q2 q3
    exact ⟨b, off, rfl, q0, by rw [Nat.add_assoc]; exact q1, by rw [Nat.add_assoc]; exact q2, by rw [Nat.add_assoc]; exact q3⟩
end Go.Proofs.YtegmoeeeomjkgaaDoor
