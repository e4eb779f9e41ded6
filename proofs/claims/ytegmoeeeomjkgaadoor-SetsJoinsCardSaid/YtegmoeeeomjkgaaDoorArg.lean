import Derived.Deep.Slices
import Derived.ProofKit
import Derived.ChangeSame
import Derived.Test.YtegmoeeeomjkgaaDoorMk0
namespace Go.Proofs.YtegmoeeeomjkgaaDoor
open Go.RowKit Go.Deep Go.ChangeShapes Go.WideShapes

theorem cellsOf26 : Tryd.prog.cellsOf 26 = 2 := by kernel_rfl
theorem cellsOf5 : Tryd.prog.cellsOf 5 = 1 := by kernel_rfl
theorem cellsOf29 : Tryd.prog.cellsOf 29 = 4 := by kernel_rfl

theorem u8_nat {n : Int} (h : (Lit.int .u8 n).wf = true) : ∃ x : Nat, n = x ∧ x < 256 := by
  have h0 : IntKind.u8.min = 0 := by decide
  have h1 : IntKind.u8.max = 255 := by decide
  simp [Lit.wf] at h
  refine ⟨n.toNat, ?_, ?_⟩ <;> omega
theorem u64_rng {n : Int} (h : (Lit.int .u64 n).wf = true) : 0 ≤ n ∧ n < 18446744073709551616 := by
  have h0 : IntKind.u64.min = 0 := by decide
  have h1 : IntKind.u64.max = 18446744073709551615 := by decide
  simp [Lit.wf] at h
  omega

variable {H : Type} {enc : TypeId × Value → H} {w : World} {base : Nat} {spare : Nat → Bool} {held : Bool}

theorem open_u8 {fuel : Nat} {cs : List Value} {x : DataW H × List MemPlace} (h : DataW.trod enc Tryd.prog w base spare held fuel 5 cs = some x) : ∃ n : Nat, cs = [.int .u8 n] ∧ n < 256 := by
  obtain ⟨n, e, _, hw⟩ := DataW.trod_int Tryd.underlying5 h
  obtain ⟨m, rfl, hm⟩ := u8_nat hw
  exact ⟨m, e, hm⟩

set_option maxRecDepth 100000 in
/-- A range that reads as data. -/
theorem rg_open {fuel : Nat} {cs : List Value} {x : DataW H × List MemPlace} (h : DataW.trod enc Tryd.prog w base spare held fuel 26 cs = some x) :
    ∃ r : Nat × Nat, cs = [.int .u8 r.1, .int .u8 r.2] ∧ r.1 < 256 ∧ r.2 < 256 := by
  obtain ⟨y0, y1, n, _, hl, h0, h1⟩ := trod_struct2 Tryd.underlying26 h
  rw [cellsOf26] at hl
  match cs, hl with
  | [a, b], _ =>
    simp only [cellsOf5, List.drop_zero, List.take_succ_cons, List.take_zero, List.drop_succ_cons] at h0 h1
    obtain ⟨f, e0, hf⟩ := open_u8 h0
    obtain ⟨t, e1, ht⟩ := open_u8 h1
    simp at e0 e1
    subst e0 e1
    exact ⟨(f, t), rfl, hf, ht⟩

theorem cells_two {a : Addr} {x y : Value} (h : w.cells? base a 2 = some [x, y]) : w.cell? a = some x ∧ w.cell? (a.add 1) = some y := by
  unfold World.cells? at h
  split at h
  · have : List.range 2 = [0, 1] := rfl
    rw [this] at h
    simp only [List.mapM_cons, List.mapM_nil] at h
    have ha : a.add 0 = a := rfl
    rw [ha] at h
    cases h0 : w.cell? a with
    | none => rw [h0] at h; cases h
    | some x' =>
      cases h1 : w.cell? (a.add 1) with
      | none => rw [h0, h1] at h; cases h
      | some y' =>
        rw [h0, h1] at h
        cases h
        exact ⟨rfl, rfl⟩
  · cases h
theorem cells_one {a : Addr} {x : Value} (h : w.cells? base a 1 = some [x]) : w.cell? a = some x := by
  unfold World.cells? at h
  split at h
  · have : List.range 1 = [0] := rfl
    rw [this] at h
    simp only [List.mapM_cons, List.mapM_nil] at h
    have ha : a.add 0 = a := rfl
    rw [ha] at h
    cases h0 : w.cell? a with
    | none => rw [h0] at h; cases h
    | some x' => rw [h0] at h; cases h; rfl
  · cases h
theorem cells_four {a : Addr} {x y z u : Value} (h : w.cells? base a 4 = some [x, y, z, u]) : w.cell? a = some x ∧ w.cell? (a.add 1) = some y ∧ w.cell? (a.add 2) = some z ∧ w.cell? (a.add 3) = some u := by
  unfold World.cells? at h
  split at h
  · have : List.range 4 = [0, 1, 2, 3] := rfl
    rw [this] at h
    simp only [List.mapM_cons, List.mapM_nil] at h
    have ha : a.add 0 = a := rfl
    rw [ha] at h
    cases h0 : w.cell? a with
    | none => rw [h0] at h; cases h
    | some x' =>
      cases h1 : w.cell? (a.add 1) with
      | none => rw [h0, h1] at h; cases h
      | some y' =>
        cases h2 : w.cell? (a.add 2) with
        | none => rw [h0, h1, h2] at h; cases h
        | some z' =>
          cases h3 : w.cell? (a.add 3) with
          | none => rw [h0, h1, h2, h3] at h; cases h
          | some u' =>
            rw [h0, h1, h2, h3] at h
            cases h
            exact ⟨rfl, rfl, rfl, rfl⟩
  · cases h

theorem add_add0 (a : Addr) (i j : Nat) : (a.add i).add j = a.add (i + j) := by
  unfold Addr.add
  by_cases hi : i = 0 <;> by_cases hj : j = 0 <;> simp [hi, hj, Nat.add_assoc]

/-- A slice of ranges that reads as data. -/
theorem rgs_open {fuel : Nat} {a : Option Addr} {len cap : Nat} {x : DataW H × List MemPlace} (h : DataW.trod enc Tryd.prog w base spare held fuel 22 [.slice a len cap] = some x) :
    ∃ d : List (Nat × Nat), d.length = len ∧ RowR w a d ∧ SmallR d ∧ len ≤ cap ∧ (a = none → cap = 0) := by
  rcases open_slice Tryd.underlying22 h with ⟨h0, _⟩ | ⟨a', len', cap', m, n, D, Pl, hcs, _, hl, hm, hmm, _, hel⟩
  · simp at h0
    obtain ⟨rfl, rfl, rfl⟩ := h0
    exact ⟨[], rfl, fun i x hx => by simp at hx, fun x hx => by simp at hx, Nat.le_refl _, fun _ => rfl⟩
  · simp at hcs
    obtain ⟨rfl, rfl, rfl⟩ := hcs
    have hlm : len ≤ m := by rw [hmm]; split <;> omega
    have hall : ∀ i, i < len → ∃ e : Nat × Nat, w.cell? (a'.add (i * 2)) = some (.int .u8 e.1) ∧ w.cell? ((a'.add (i * 2)).add 1) = some (.int .u8 e.2) ∧ e.1 < 256 ∧ e.2 < 256 := by
      intro i hi
      obtain ⟨cs', h1, h2⟩ := hel i (by omega)
      obtain ⟨e, rfl, e1, e2⟩ := rg_open h2
      rw [cellsOf26] at h1
      obtain ⟨k1, k2⟩ := cells_two h1
      exact ⟨e, k1, k2, e1, e2⟩
    obtain ⟨f, hf⟩ := choose_lt hall
    have hget : ∀ i x, ((List.range len).map f)[i]? = some x → i < len ∧ f i = x := by
      intro i x hx
      have hi : i < len := by
        have := (List.getElem?_eq_some_iff.1 hx).1
        simpa using this
      rw [List.getElem?_map, List.getElem?_range hi] at hx
      exact ⟨hi, by simpa using hx⟩
    refine ⟨(List.range len).map f, by simp, ?_, ?_, hl, fun e => by cases e⟩
    · intro i x hx
      obtain ⟨hi, hx'⟩ := hget i x hx
      obtain ⟨q0, q1, _⟩ := hf i hi
      rw [hx'] at q0 q1
      have hspot : a'.spot = none := by
        have := (hf 0 (by omega)).1
        have e0 : a'.add (0 * 2) = a' := rfl
        rw [e0] at this
        exact World.cell?_spot this
      obtain ⟨b, off, spot⟩ := a'
      simp only at hspot
      subst hspot
      rw [add_zero_off] at q0
      rw [add_add0, add_zero_off] at q1
      exact ⟨b, off, rfl, q0, by rw [Nat.add_assoc]; exact q1⟩
    · intro x hx
      obtain ⟨i, hi⟩ := List.mem_iff_getElem?.1 hx
      obtain ⟨hi', rfl⟩ := hget i x hi
      exact (hf i hi').2.2

/-- A slice of bytes that reads as data. -/
theorem bys_open {fuel : Nat} {a : Option Addr} {len cap : Nat} {x : DataW H × List MemPlace} (h : DataW.trod enc Tryd.prog w base spare held fuel 23 [.slice a len cap] = some x) :
    ∃ d : List Nat, d.length = len ∧ RowY w a d ∧ SmallY d ∧ len ≤ cap ∧ (a = none → cap = 0) := by
  rcases open_slice Tryd.underlying23 h with ⟨h0, _⟩ | ⟨a', len', cap', m, n, D, Pl, hcs, _, hl, hm, hmm, _, hel⟩
  · simp at h0
    obtain ⟨rfl, rfl, rfl⟩ := h0
    exact ⟨[], rfl, fun i x hx => by simp at hx, fun x hx => by simp at hx, Nat.le_refl _, fun _ => rfl⟩
  · simp at hcs
    obtain ⟨rfl, rfl, rfl⟩ := hcs
    have hlm : len ≤ m := by rw [hmm]; split <;> omega
    have hall : ∀ i, i < len → ∃ e : Nat, w.cell? (a'.add (i * 1)) = some (.int .u8 e) ∧ e < 256 := by
      intro i hi
      obtain ⟨cs', h1, h2⟩ := hel i (by omega)
      obtain ⟨e, rfl, e1⟩ := open_u8 h2
      rw [cellsOf5] at h1
      exact ⟨e, cells_one h1, e1⟩
    obtain ⟨f, hf⟩ := choose_lt hall
    have hget : ∀ i x, ((List.range len).map f)[i]? = some x → i < len ∧ f i = x := by
      intro i x hx
      have hi : i < len := by
        have := (List.getElem?_eq_some_iff.1 hx).1
        simpa using this
      rw [List.getElem?_map, List.getElem?_range hi] at hx
      exact ⟨hi, by simpa using hx⟩
    refine ⟨(List.range len).map f, by simp, ?_, ?_, hl, fun e => by cases e⟩
    · intro i x hx
      obtain ⟨hi, hx'⟩ := hget i x hx
      obtain ⟨q0, _⟩ := hf i hi
      rw [hx'] at q0
      have hspot : a'.spot = none := by
        have := (hf 0 (by omega)).1
        have e0 : a'.add (0 * 1) = a' := rfl
        rw [e0] at this
        exact World.cell?_spot this
      obtain ⟨b, off, spot⟩ := a'
      simp only at hspot
      subst hspot
      rw [add_zero_off, Nat.mul_one] at q0
      exact ⟨b, off, rfl, q0⟩
    · intro x hx
      obtain ⟨i, hi⟩ := List.mem_iff_getElem?.1 hx
      obtain ⟨hi', rfl⟩ := hget i x hi
      exact (hf i hi').2

end Go.Proofs.YtegmoeeeomjkgaaDoor
