/-
  PROVED: for every grammar and every tree, rosettalaw06.KernelKeeps returns true, and the arguments read afterwards as they read before: a tree of the trimmed grammar's is one of the grammar's, by the productions that were kept. No condition.
-/
import Derived.Test.YtiihdbchchnncaaRows
import Derived.WalkKit
import Derived.ProofKit
import Derived.OpenShut
import Derived.ShutString
import Derived.ChangeOld
import Derived.Below
import Derived.Test.YtiihdbchchnncaaM21
namespace Go.Proofs.Ytiihdbchchnncaa.kernelKeeps
open Go.Proofs.Ytiihdbchchnncaa
open Go.ChangeShapes Go.WideShapes Go.ChangeAt Go.RowKit
open Go.ChangeMaps (open_string shut_string)

theorem own : ownKnob Try.prog.godebug = none := by kernel_rfl
theorem laidOut : laidOutB Try.prog = true := by kernel_rfl

theorem walk (g : GramM) (t : TreeM) (w : World) (hg : AGram w g) (ht : TreeIn w t ∧ ∀ d, ATree w d t) : Calls Try.prog 8 #[gramV g, treeV t] w fun e w' => e = .returned (.bool true) ∧ Below w.heap.size w w' := by
  cases h : vastB g with
  | true => exact lawKeeps_vast g t w hg h
  | false => exact lawKeeps_any g t w hg ht.1 ht.2 h

set_option maxRecDepth 100000 in
theorem lifted (os : Os) (started : os.Started) (H : Type) (enc : TypeId × Value → H) :
    ReturnsInHanded {} Try.checked os 8 .any (Rows.kernelKeepsSpec.pre6 enc Try.prog Try.f8 Rows.kernelKeepsRow.domain false) (Rows.kernelKeepsSpec.post enc Try.prog Try.f8 false true false false) := by
  refine returnsInHanded_of_change (C := Try.checked) own started (by kernel_rfl) Try.func8
    (ChangeSpec.witness6 (enc := enc) (C := Try.checked) false ⟨#[], #[.agg #[.slice none 0 0, .slice none 0 0, .int .i64 0, .slice none 0 0, .slice none 0 0], .agg #[.int .i64 0, .int .u8 0, .slice none 0 0]], []⟩ 12 (by kernel_rfl) (by kernel_rfl) (by kernel_rfl) (by kernel_rfl)) ?_
  intro W base args ds gs before hval0 hW hcnd _
  have hval : ∀ (j : Nat) t v, Try.f8.params[j]? = some t → args[j]? = some v → Value.okWide Try.prog W .any base t v := hval0
  have hW' := hW
  obtain ⟨p, q, hA0, hV, rfl, hfz, hnd⟩ := hW
  have hA : DataW.TrodAll enc Try.prog W 0 (fun _ => true) true Try.f8.params.toList args.toList ds p := hA0
  rw [Try.params8] at hA hval
  obtain ⟨v0, vs0, d0, ds0, p0, q0, hargs, rfl, rfl, h0, r0⟩ := trodAll_cons hA
  obtain ⟨v1, vs1, d1, ds1, p1, q1, rfl, rfl, rfl, h1, r1⟩ := trodAll_cons r0
  obtain ⟨rfl, rfl, rfl⟩ := trodAll_nil r1
  obtain rfl : args = #[v0, v1] := Array.ext' hargs
  obtain ⟨rfl, rfl⟩ := trodVars_none hV
  have k0 := h0
  have lt0 : ∀ x ∈ p0, x.block < W.heap.size := by obtain ⟨m, hm⟩ := k0; exact DataW.trod_lt m _ _ _ hm
  obtain ⟨c0, rfl, _⟩ := okWide_struct Try.underlying27 (hval 0 27 v0 rfl rfl)
  obtain ⟨g, rfl, gh⟩ : ∃ y : GramM, c0 = gramC y ∧ AGram W y := by
    obtain ⟨fuel, hf⟩ := h0
    obtain ⟨y, e, hy⟩ := gram_open hf
    exact ⟨y, Array.ext' e, hy⟩
  have k1 := h1
  have lt1 : ∀ x ∈ p1, x.block < W.heap.size := by obtain ⟨m, hm⟩ := k1; exact DataW.trod_lt m _ _ _ hm
  obtain ⟨c1, rfl, _⟩ := okWide_struct Try.underlying51 (hval 1 51 v1 rfl rfl)
  obtain ⟨t, rfl, th⟩ : ∃ y : TreeM, c1 = treeC y ∧ (TreeIn W y ∧ ∀ d, ATree W d y) := by
    obtain ⟨fuel, hf⟩ := h1
    obtain ⟨y, e, hy⟩ := tree_open _ _ _ hf
    exact ⟨y, Array.ext' e, hy⟩
  clear hA0 hval0
  simp only [List.append_nil] at hW'
  refine (walk g t W gh th).mono fun e W' ⟨he, bel⟩ => ?_
  subst he
  exact ⟨_, rfl, _, _, _, [], _, [], hW', trodAll_mk1 (shut_bool Try.underlying4 _), (trodAll_cons_mk (Below.trod laidOut (by kernel_rfl) (of_decide_eq_true (by kernel_rfl)) k0 bel lt0) (trodAll_cons_mk (Below.trod laidOut (by kernel_rfl) (of_decide_eq_true (by kernel_rfl)) k1 bel lt1) trodAll_mk0)), rfl, bel.frame _, fun h => by cases h⟩

theorem over : Rows.kernelKeepsRow.holds Try.pinned (OpenSpec.ofChange Rows.kernelKeepsSpec) :=
  OpenClaim.holds_of_wide 8 Try.f8 rfl rfl rfl rfl rfl rfl rfl ⟨rfl, rfl, rfl, rfl, rfl⟩ rfl rfl rfl rfl rfl (by kernel_rfl) Try.func8 (by kernel_rfl)
    (of_decide_eq_true (by kernel_rfl)) (by unfold Func.isWrapper; first | (rw [if_pos (by decide +kernel)]; kernel_rfl) | (rw [if_neg (by decide +kernel)]; exact ⟨rfl, rfl⟩))
    (fun os started H enc _ => lifted os started H enc)

/-- THE STATEMENT -/
theorem proved : Rows.KernelKeepsSaid :=
  over
#print axioms proved
end Go.Proofs.Ytiihdbchchnncaa.kernelKeeps
