import Derived.Test.YtmlkeddiagmedaaC
import Derived.Test.YtmlkeddiagmedaaLib
import Derived.Test.YtmlkeddiagmedaaBlk
namespace Go.Proofs.Ytmlkeddiagmedaa
open Go.RowKit Go.Shelf Go.Lib Go.Sort

abbrev Ed := Int × Int × ByteArray

/-- An Edit's three cells. -/
def encEd (x : Ed) : List Value := [.int .i64 x.1, .int .i64 x.2.1, .string x.2.2]
def cfEd (x y : Ed) : Int := cmpEd x.1 x.2.1 y.1 y.2.1

theorem ltEd (x y : Ed) : ltOf cfEd x y = decide (x.1 < y.1 ∨ x.1 = y.1 ∧ x.2.1 < y.2.1) := by
  unfold ltOf cfEd cmpEd orI cmpI
  rw [decide_eq_decide]
  by_cases h1 : x.1 < y.1
  · simp [h1]
  · by_cases h2 : y.1 < x.1
    · simp [h1, h2]; omega
    · have h3 : x.1 = y.1 := by omega
      simp [h3]
      by_cases h4 : x.2.1 < y.2.1
      · simp [h4]
      · by_cases h5 : y.2.1 < x.2.1 <;> simp [h4, h5]

theorem swoEd : SWO (ltOf cfEd) where
  irrefl x := by rw [ltEd]; simp
  trans x y z h1 h2 := by rw [ltEd] at *; simp at *; omega
  ntrans x y z h1 h2 := by rw [ltEd] at *; simp at *; omega

theorem cmpLaysEd (blk off size : Nat) (w : World) : CmpLays Try.prog 58 #[] encEd 3 cfEd blk off size w :=
  fun m os dk _ x y => (closure_any x.1 x.2.1 y.1 y.2.1 x.2.2 y.2.2 _).mono fun e w' ⟨he, hw⟩ => ⟨he, 1, #[.cells #[.int .i64 x.1, .int .i64 x.2.1, .string x.2.2] 42, .cells #[.int .i64 y.1, .int .i64 y.2.1, .string y.2.2] 42, .cells #[.int .i64 (cmpI x.1 y.1), .int .i64 (cmpI x.2.1 y.2.1)] 3], by
    rw [hw, alloc_eq_grow, alloc_eq_grow, alloc_eq_grow, grow_grow, grow_grow]
    rfl⟩

theorem sort_any (blk off cap : Nat) (d : Array Ed) (w : World) (hH : HoldsK encEd 3 w blk off d) (hblk : blk < w.heap.size) (hsz : d.size < 4611686018427387904) :
    Calls Try.prog 57 #[.slice (some ⟨blk, off, none⟩) d.size cap, .func (.func 58) #[] #[]] w fun e w' => e = .returned (.tuple #[]) ∧ ∃ d' n os, PermIn 0 d.size d d' ∧ SortedIn (ltOf cfEd) 0 d.size d' ∧ w' = sortWorldK encEd 3 w blk off n d' os := by
  have eg : ∀ args w, (callFunc 58 args).run Try.prog w = .ok (.enter 58 args) w := enters_of Try.func58 (by kernel_rfl) rfl
  have hcon := AnyQ.slices_SortFunc Try.sortEd 3 Try.isAgg42 Try.sizeOf42 encEd (fun _ => rfl) (fun x v hv => by simp [encEd] at hv; rcases hv with rfl | rfl | rfl <;> rfl) cfEd swoEd 58 #[] blk off cap d w eg (cmpLaysEd blk off d.size w) hH hblk hsz
  exact hcon

end Go.Proofs.Ytmlkeddiagmedaa
