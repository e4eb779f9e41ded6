import Derived.Test.YtiihdbchchnncaaK3
namespace Go.Proofs.Ytiihdbchchnncaa
open Go Go.RowKit

/-- Trees as deep as one likes. -/
inductive DTree : Nat → TreeM → Prop
  | leaf : DTree 1 (.node (-1) 97 none 0 [])
  | one (a : Option Addr) : DTree 2 (.node 1 0 a 1 [.node (-1) 97 none 0 []])
  | up {n : Nat} (a : Option Addr) {t : TreeM} : DTree (n + 2) t → DTree (n + 3) (.node 0 0 a 1 [t])
theorem leaf_nest (d : Nat) : nestB d (.node (-1) 97 none 0 []) = decide (1 ≤ d) := by
  cases d with
  | zero => rfl
  | succ d => rw [nestB]; simp
theorem DTree.nest {n : Nat} {t : TreeM} (h : DTree n t) : ∀ d, nestB d t = decide (n ≤ d) := by
  induction h with
  | leaf => exact leaf_nest
  | one a =>
    intro d
    cases d with
    | zero => rfl
    | succ d => rw [nestB, List.all_cons, List.all_nil, leaf_nest]; simp
  | up a h ih =>
    intro d
    cases d with
    | zero => rw [nestB]; simp
    | succ d => rw [nestB, List.all_cons, List.all_nil, ih]; simp
theorem DTree.fit {n : Nat} {t : TreeM} (h : DTree n t) : ∀ d, TFit d t := by
  have hl : ∀ d, TFit d (.node (-1) 97 none 0 []) := fun d => by
    cases d with
    | zero => rw [TFit]; trivial
    | succ d => rw [TFit]; exact ⟨by simp, ⟨97, rfl, by decide⟩, fun k hk => by cases hk⟩
  induction h with
  | leaf => exact hl
  | one a =>
    intro d
    cases d with
    | zero => rw [TFit]; trivial
    | succ d => rw [TFit]; exact ⟨by simp, ⟨0, rfl, by decide⟩, fun k hk => by simp at hk; rw [hk]; exact hl d⟩
  | up a h ih =>
    intro d
    cases d with
    | zero => rw [TFit]; trivial
    | succ d => rw [TFit]; exact ⟨by simp, ⟨0, rfl, by decide⟩, fun k hk => by simp at hk; rw [hk]; exact ih d⟩
theorem DTree.yield {n : Nat} {t : TreeM} (h : DTree n t) : ∀ d, yieldL d t = if n ≤ d then [97] else [] := by
  have hl : ∀ d, yieldL d (.node (-1) 97 none 0 []) = if 1 ≤ d then [97] else [] := fun d => by
    cases d with
    | zero => rfl
    | succ d => rw [yieldL]; simp
  induction h with
  | leaf => exact hl
  | one a =>
    intro d
    cases d with
    | zero => rfl
    | succ d => rw [yieldL, if_neg (by decide), List.flatMap_cons, List.flatMap_nil, hl]; simp
  | up a h ih =>
    intro d
    cases d with
    | zero => rw [yieldL]; simp
    | succ d => rw [yieldL, if_neg (by decide), List.flatMap_cons, List.flatMap_nil, ih]; simp

/-- The grammar of KernelDeep, with where its lists lie. -/
def GD (sa pa r0 r1 : Option Addr) : GramM := ⟨sa, 1, [⟨#[83]⟩], pa, 2, [⟨0, r0, 1, [⟨1, 0, 0⟩], ⟨#[]⟩, 0, false, false, -1⟩, ⟨0, r1, 1, [⟨0, la, 0⟩], ⟨#[]⟩, 0, false, false, -1⟩], 0, none, 0, [], none, 0, []⟩
section
variable (sa pa r0 r1 : Option Addr)
theorem GD_check : checkB (GD sa pa r0 r1) = true := by kernel_rfl
theorem GD_fit : FitG (GD sa pa r0 r1) := by
  refine ⟨⟨by simp [GD], by simp [GD], fun x hx => ?_, by simp [GD], by simp [GD], fun f hf => by simp [GD] at hf, fun s hs => ?_⟩, fun f hf => by simp [GD] at hf, fun f hf => by simp [GD] at hf⟩
  · simp only [GD, List.mem_cons, List.not_mem_nil, or_false] at hx
    rcases hx with rfl | rfl <;> simp
  · simp only [GD, List.mem_cons, List.not_mem_nil, or_false] at hs
    rw [hs]; decide
theorem DTree.tree {n : Nat} {t : TreeM} (h : DTree n t) : ∀ d, n ≤ d → treeB (GD sa pa r0 r1) d t = decide (2 ≤ n) := by
  induction h with
  | leaf =>
    intro d hd
    obtain ⟨d, rfl⟩ : ∃ e, d = e + 1 := ⟨d - 1, by omega⟩
    rw [treeB]; rfl
  | one a =>
    intro d hd
    obtain ⟨d, rfl⟩ : ∃ e, d = e + 1 := ⟨d - 1, by omega⟩
    rw [treeB]
    kernel_rfl
  | @up n a t h ih =>
    intro d hd
    obtain ⟨d, rfl⟩ : ∃ e, d = e + 1 := ⟨d - 1, by omega⟩
    have h1 := ih d (by omega)
    have h2 : decide (2 ≤ n + 2) = true := by simp
    have h3 : decide (2 ≤ n + 3) = true := by simp
    rw [h2] at h1
    rw [treeB, h3]
    have h4 : ofTB (GD sa pa r0 r1) (treeB (GD sa pa r0 r1) d) ⟨1, 0, 0⟩ t = true := by
      cases h with
      | one b =>
        show (treeB (GD sa pa r0 r1) d (.node 1 0 b 1 [.node (-1) 97 none 0 []]) && ((0 : Int) == 0)) = true
        rw [h1]; rfl
      | @up _ b t' h' =>
        show (treeB (GD sa pa r0 r1) d (.node 0 0 b 1 [t']) && ((0 : Int) == 0)) = true
        rw [h1]; rfl
    show (numB 0 2 && (0 : Int) == 0 && (!((0 : Int) == 11) && ([t] : List TreeM).length == 1 && (ofTB (GD sa pa r0 r1) (treeB (GD sa pa r0 r1) d) ⟨1, 0, 0⟩ t && true))) = true
    rw [h4]; rfl
theorem DTree.ct {n : Nat} {t : TreeM} (h : DTree n t) : ctI (GD sa pa r0 r1) t = if 16384 < n then 3 else if n < 2 then 163 else 0 := by
  unfold ctI
  rw [GD_check, h.nest]
  by_cases h1 : 16384 < n
  · rw [if_pos h1, show decide (n ≤ 16384) = false by simp; omega]; rfl
  · rw [if_neg h1, show decide (n ≤ 16384) = true by simp; omega, h.tree sa pa r0 r1 16384 (by omega)]
    by_cases h2 : n < 2
    · rw [if_pos h2, show decide (2 ≤ n) = false by simp; omega]; rfl
    · rw [if_neg h2, show decide (2 ≤ n) = true by simp; omega]; rfl
end
theorem deep_yield {n : Nat} {t : TreeM} (h : DTree n t) (W : World) (ht : TreeIn W t) :
    Calls Try.prog 21 #[treeV t] W fun e w' => e = .returned (if n ≤ 16384 then .tuple #[.string ⟨#[97]⟩, .int .i64 0] else .tuple #[.string ⟨#[]⟩, .int .i64 3]) ∧ Below W.heap.size W w' := by
  refine (yield_any t W ht (h.fit 16384) (by rw [h.yield]; split <;> decide)).mono ?_
  rintro e w' ⟨rfl, hB⟩
  refine ⟨?_, hB⟩
  rw [h.nest, h.yield]
  by_cases h1 : n ≤ 16384
  · rw [if_pos h1, if_pos (by simpa using h1), if_pos h1]; rfl
  · rw [if_neg h1, if_neg (by simpa using h1), if_neg h1]
end Go.Proofs.Ytiihdbchchnncaa
