import Derived.Test.YtmlkeddiagmedaaTog
import Derived.Shelf.SlSortCmp.NoneTotal
namespace Go.Proofs.Ytmlkeddiagmedaa
open Go.RowKit Go.Shelf Go.Lib Go.Sort

theorem below_sortWorld {B g n : Nat} {w0 w : World} {d' : Array Ed} {os : Array Obj} (h : RowKit.Below B w0 w) (hg : B ≤ g) (hl : g < w.heap.size) : RowKit.Below B w0 (sortWorldK encEd 3 w g 0 n d' os) := by
  refine h.trans ⟨rfl, rfl, rfl, ?_, ?_⟩
  · show w.heap.size ≤ ((w.heap.modify g _) ++ os).size
    simp
  · intro k hk
    show ((w.heap.modify g _) ++ os)[k]? = w.heap[k]?
    rw [Array.getElem?_append_left (by rw [Array.size_modify]; omega), Array.getElem?_modify, if_neg (by omega)]

/-- A slice of Edits, sorted. -/
def SortedEd (sd : List Ed) : Prop := sd.Pairwise (fun x y => x.1 < y.1 ∨ (x.1 = y.1 ∧ x.2.1 ≤ y.2.1))

def sortPost (d : List Ed) (g : Nat) (w : World) (e : Ending) (w' : World) : Prop :=
  e = .returned (.tuple #[]) ∧ RowKit.Below g w w' ∧ ∃ sd : List Ed, sd.Perm d ∧ SortedEd sd ∧ RowEd w' (some ⟨g, 0, none⟩) sd

theorem sort_list (g cap : Nat) (d : List Ed) (w : World) (hH : HoldsK encEd 3 w g 0 d.toArray) (hblk : g < w.heap.size) (hsz : d.length < 4611686018427387904) :
    Calls Try.prog 57 #[.slice (some ⟨g, 0, none⟩) d.length cap, .func (.func 58) #[] #[]] w (sortPost d g w) := by
  have h := sort_any g 0 cap d.toArray w hH hblk (by simpa using hsz)
  simp only [List.size_toArray] at h
  refine h.mono ?_
  rintro e w' ⟨rfl, d', n, os, hp, hs, rfl⟩
  have hsize : d'.size = d.length := by simpa using hp.1
  refine ⟨rfl, below_sortWorld (RowKit.Below.refl _ _) (Nat.le_refl _) hblk, d'.toList, ?_, ?_, ?_⟩
  · have := hp.2.2
    have e1 : d'.extract 0 d.length = d' := by rw [← hsize]; simp
    rw [e1] at this
    simpa using this
  · unfold SortedEd
    rw [List.pairwise_iff_getElem]
    intro i j hi hj hij
    have h1 : i < d'.size := by simpa using hi
    have h2 : j < d'.size := by simpa using hj
    have := hs i j (Nat.zero_le _) hij (by omega)
    rw [ltEd, decide_eq_false_iff_not, getElem!_pos d' i h1, getElem!_pos d' j h2] at this
    simp only [Array.getElem_toList]
    generalize d'[i] = x at *
    generalize d'[j] = y at *
    omega
  · have hk : HoldsK encEd 3 (sortWorldK encEd 3 w g 0 n d' os) g 0 d' := by
      unfold sortWorldK
      refine holdsK_grow encEd 3 _ _ _ _ _ (by simp [putRowK, Sort.ahead]; exact hblk) ?_
      exact holdsK_putRowK encEd 3 _ _ _ d.toArray d' (holdsK_ahead encEd 3 w n g 0 _ hH) (by simpa using hsize)
    exact rowEd_of_holds hk

theorem sort_none (p : Option Addr) (cap : Nat) (w : World) : Calls Try.prog 57 #[.slice p 0 cap, .func (.func 58) #[] #[]] w fun e w' => e = .returned (.tuple #[]) ∧ w = w' :=
  (AnyF.slices_SortFunc_none Try.sortEd p cap (.func (.func 58) #[] #[]) w).mono fun _ _ ⟨a, b⟩ => ⟨a, b.symm⟩

theorem clone_nil (n c : Nat) (w : World) : Calls Try.prog 56 #[.slice none n c] w fun e w' => e = .returned (.slice none 0 0) ∧ w = w' :=
  (AnyE.slices_Clone_nil Try.cloneEd n c w).mono fun _ _ ⟨a, b⟩ => ⟨a, b.symm⟩

set_option maxHeartbeats 400000 in
theorem clone_zero (p : Addr) (c : Nat) (w : World) : Calls Try.prog 56 #[.slice (some p) 0 c] w fun e w' => (∃ g cap, e = .returned (.slice (some ⟨g, 0, none⟩) 0 cap) ∧ w.heap.size ≤ g) ∧ RowKit.Below w.heap.size w w' := by
  have q39 : ∀ (w : World) (a : Option Addr) (n c n' c' : Nat), (binOp .eql 39 (.slice a n c) (.slice none n' c')).run Try.prog w = .ok (.bool a.isNone) w := fun w a n c n' c' => Lib.run_eql_slice_nil w _ _ a n c n' c' Try.underlying39
  go_enter Try.func56, Try.ntmps56
  go_wp2
  go_ret
  exact ⟨⟨w.heap.size, _, rfl, Nat.le_refl _⟩, (RowKit.Below.refl _ _).alloc (Nat.le_refl _) _⟩

end Go.Proofs.Ytmlkeddiagmedaa
