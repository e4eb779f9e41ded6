import Derived.RangeFuncLeaves
import Derived.RangeFuncKeeps
import Derived.RangeFuncWrites
import Derived.RangeFuncNested
import Derived.Shelf.Abstract
import Derived.Shelf.RegionOpen
import Derived.OwnWalkIn
import Derived.TacticsInMore
import Derived.LoopNIn
import Derived.LoopIn
import Derived.RangeFuncBox
import Derived.Test.YtiihdbchchnncaaM
namespace Go.Proofs.Ytiihdbchchnncaa
open Go Go.RowKit

/-! A range over a function whose function has memory of its own, that it writes between two rounds: what the loop's owner says hangs on blocks below the loop alone. -/

/-- All that lies at B or above lies as it lay. -/
structure KeepUp (B : Nat) (W W' : World) : Prop where
  size : W.heap.size ≤ W'.heap.size
  up : ∀ (k : Nat) (o : Obj), B ≤ k → W.heap[k]? = some o → W'.heap[k]? = some o
theorem KeepUp.refl (B : Nat) (W : World) : KeepUp B W W := ⟨Nat.le_refl _, fun _ _ _ h => h⟩
theorem KeepUp.trans {B : Nat} {X Y Z : World} (h : KeepUp B X Y) (k : KeepUp B Y Z) : KeepUp B X Z :=
  ⟨Nat.le_trans h.size k.size, fun i o hB ho => k.up i o hB (h.up i o hB ho)⟩
theorem KeepUp.mono {A B : Nat} {X Y : World} (h : KeepUp A X Y) (hAB : A ≤ B) : KeepUp B X Y := ⟨h.size, fun i o hB ho => h.up i o (by omega) ho⟩
theorem KeepUp.of_below {B n : Nat} {X Y : World} (h : Below n X Y) (hn : X.heap.size ≤ n) : KeepUp B X Y :=
  ⟨h.size, fun i o _ ho => (h.block i (by have := (Array.getElem?_eq_some_iff.1 ho).1; omega)).trans ho⟩
theorem KeepUp.put {B l : Nat} {X : World} {o : Obj} (hl : l < B) : KeepUp B X (X.putObj l o) :=
  ⟨(grownBy_putObj' _ _ _).size, fun i o' hB ho => (World.putObj_heap_other (by omega)).trans ho⟩
theorem KeepUp.set {B b i : Nat} {X : World} (hb : b < B) (v : Value) : KeepUp B X (X.setCell ⟨b, i, none⟩ v) :=
  ⟨by rw [World.size_setCell]; exact Nat.le_refl _, fun k o hk ho => (Below.heap_setCell X ⟨b, i, none⟩ v k (by show k ≠ b; omega)).trans ho⟩
theorem KeepUp.drew {B : Nat} {X Y : World} (h : KeepUp B X Y) : KeepUp B X Y.drew := ⟨h.size, h.up⟩
theorem KeepUp.setR {B b i : Nat} {X Y : World} (h : KeepUp B X Y) (hb : b < B) (v : Value) : KeepUp B X (Y.setCell ⟨b, i, none⟩ v) := h.trans (KeepUp.set hb v)
theorem putB {n D : Nat} {w W : World} {o : Obj} (h : Below n w W) (hD : n ≤ D) : Below n w (W.putObj D o) :=
  ⟨h.os, h.tape, h.output, Nat.le_trans h.size (grownBy_putObj' _ _ _).size, fun k hk => (World.putObj_heap_other (by omega)).trans (h.block k hk)⟩

/-- The iterator's word: these elements, in order, as long as it is told to go on. -/
def LowSeq {α : Type} (n : Nat) (P : Program) (g : Nat) (lb : Array Value) (encs : α → Array Value) (xs : List α) (R : World → Prop) (w : World) : Prop :=
  ∀ (l : Nat) (J Jx : List α → World → Prop) (W : World), Below w.heap.size w W → (∀ s A, J s A → R A) →
    (∀ s A B, J s A → Below W.heap.size A B → J s B) → (∀ s A B, Jx s A → Below W.heap.size A B → Jx s B) →
    (∀ pre x W1, pre ++ [x] <+: xs → J pre W1 → YieldAt Fence.wide (n - 1) P l (encs x) W1 fun e W' =>
      (e = .returned (.bool true) ∧ J (pre ++ [x]) W' ∧ KeepUp W.heap.size W1 W') ∨ (e = .returned (.bool false) ∧ Jx (pre ++ [x]) W' ∧ KeepUp W.heap.size W1 W')) →
    J [] W → CallsIn Fence.wide n P g (#[.func (.yield l) #[] #[]] ++ lb) W fun e W' => (∃ v, e = .returned v) ∧ (J xs W' ∨ ∃ pre, pre <+: xs ∧ Jx pre W')

/-- How a round's body may be left. -/
def lowPost {α : Type} (B : Nat) (I : List α → World → Prop) (Ix : Code → List α → World → Prop) (ys : List α) (W : World) : Exit → Act → World → Prop
  | .normal, _, W' => KeepUp B W W' ∧ I ys W'
  | .ret, _, W' => KeepUp B W W' ∧ Ix .ret ys W'
  | .exit id, _, W' => KeepUp B W W' ∧ Ix (.exit id) ys W'
  | .goto t, _, W' => KeepUp B W W' ∧ Ix (.goto t) ys W'
  | .panic _, _, _ => False
  | .outgrown, _, _ => False

theorem rangeFunc_low {α : Type} {P : Program} {n : Nat} {g : Operand} {ps : Array Tmp} {assign body : Code} {Q : Exit → Act → World → Prop} {a : Act} {w : World}
    (h1 : 1 ≤ n) {gf : Nat} {lb : Array Value} (hg : a.eval g = .func (.func gf) #[] lb) (eg : ∀ args w, (callFunc gf args).run P w = .ok (.enter gf args) w)
    {encs : α → Array Value} {xs : List α} {R : World → Prop} (hseq : LowSeq (n - 1) P gf lb encs xs R w) (hps : ∀ x, (encs x).size = ps.size)
    (I : List α → World → Prop) (Ix : Code → List α → World → Prop) (hI : ∀ s A B, I s A → Below w.heap.size A B → I s B) (hIx : ∀ c s A B, Ix c s A → Below w.heap.size A B → Ix c s B) (hIR : ∀ s A, I s A → R A) (h0 : I [] w)
    (hround : ∀ (l : Nat) (pre : List α) (x : α) (W : World), pre ++ [x] <+: xs → I pre W → w.heap.size + 2 ≤ W.heap.size →
      assign.wpIn (Fence.wide.inRound l) (n - 1 - 1) P (Exit.then (fun a₁ W₁ => KeepUp w.heap.size W W₁ ∧ ∀ W₂, (∃ o, W₂ = W₁.putObj (w.heap.size + 1) o) → (∃ r, W₁.heap[w.heap.size + 1]? = some (.loop r)) →
        body.wpIn (Fence.wide.inRound l) (n - 1 - 1) P (lowPost w.heap.size I Ix (pre ++ [x]) W₂) a₁ W₂) (fun _ _ _ => False))
        { tmps := (ps.zip (encs x)).foldl (fun t (p, v) => t.setIfInBounds p v) a.tmps, defers := [] } W)
    (hdone : ∀ (D : Nat) (W : World), w.heap.size ≤ D → I xs W → W.heap[D]? = some (.deferred (some [])) → Q .normal { a with defers := { target := .collected D, args := #[] } :: a.defers } W)
    (hstop : ∀ (D : Nat) (c : Code) (pre : List α) (W : World), w.heap.size ≤ D → pre <+: xs → Ix c pre W → W.heap[D]? = some (.deferred (some [])) → c.wpIn Fence.wide n P Q { a with defers := { target := .collected D, args := #[] } :: a.defers } W) :
    (Code.rangeFunc g ps assign body).wpIn Fence.wide n P Q a w := by
  refine wpIn_rangeFunc fun fn hfn => ?_
  obtain ⟨rec, hrec⟩ : ∃ rec : LoopState → Option Code → Loop, rec = fun st pe => { state := st, pending := pe, fn, tmps := a.tmps, params := ps, assign, body, defers := w.heap.size } := ⟨_, rfl⟩
  obtain ⟨W1, hW1⟩ : ∃ W1, W1 = (w.alloc (.deferred (some []))).alloc (.loop (rec .ready none)) := ⟨_, rfl⟩
  have hs1 : W1.heap.size = w.heap.size + 2 := by rw [hW1]; simp
  have hb1 : Below w.heap.size w W1 := by rw [hW1]; exact ((Below.refl _ w).alloc (Nat.le_refl _) _).alloc (by simp) _
  have hl1 : W1.heap[w.heap.size + 1]? = some (.loop (rec .ready none)) := by
    have h := World.alloc_heap_new (w.alloc (.deferred (some []))) (.loop (rec .ready none))
    rw [World.size_alloc] at h
    rw [hW1]; exact h
  have hd1 : W1.heap[w.heap.size]? = some (.deferred (some [])) := by
    rw [hW1]; exact (Below.heap_alloc _ _ _ (by simp)).trans (World.alloc_heap_new w _)
  refine ⟨w.heap.size + 1, [{ target := .collected w.heap.size, args := #[] }], W1, { target := .fn (.func gf) lb, args := #[.func (.yield (w.heap.size + 1)) #[] #[]] }, W1, gf,
    #[.func (.yield (w.heap.size + 1)) #[] #[]] ++ lb, W1, ?_, ?_, fun _ _ => trivial, ?_, fun _ => h1, ?_⟩
  · rw [hW1, hrec]; exact run_enterLoop_outer _ _ _ _ _
  · simp only [resolve, hg]
    simp [go_sem]
  · simp [invoke, go_sem, eg]
  · -- what the owner says, beside the loop's two blocks
    have hbook : ∀ {A B : World} {k : Nat} {o : Obj}, k < w.heap.size + 2 → A.heap[k]? = some o → Below W1.heap.size A B → B.heap[k]? = some o := fun hk ho hB => (hB.block _ (by omega)).trans ho
    have hput : ∀ {W : World} {s : List α} (o : Obj), I s W → I s (W.putObj (w.heap.size + 1) o) := fun {W s} o h => hI s W _ h ⟨rfl, rfl, rfl, (grownBy_putObj' _ _ _).size, fun k hk => World.putObj_heap_other (by omega)⟩
    have hputx : ∀ {W : World} {s : List α} {c : Code} (o : Obj), Ix c s W → Ix c s (W.putObj (w.heap.size + 1) o) := fun {W s c} o h => hIx c s W _ h ⟨rfl, rfl, rfl, (grownBy_putObj' _ _ _).size, fun k hk => World.putObj_heap_other (by omega)⟩
    refine (hseq (w.heap.size + 1)
      (fun pre W => I pre W ∧ W.heap[w.heap.size + 1]? = some (.loop (rec .ready none)) ∧ W.heap[w.heap.size]? = some (.deferred (some [])))
      (fun pre W => ∃ c, Ix c pre W ∧ W.heap[w.heap.size + 1]? = some (.loop (rec .done (some c))) ∧ W.heap[w.heap.size]? = some (.deferred (some [])))
      W1 hb1 (fun s A h => hIR s A h.1)
      (fun s A B h hB => ⟨hI s A B h.1 (hB.mono (by omega)), hbook (by omega) h.2.1 hB, hbook (by omega) h.2.2 hB⟩)
      (fun s A B h hB => by
        obtain ⟨c, hc, hl, hd⟩ := h
        exact ⟨c, hIx c s A B hc (hB.mono (by omega)), hbook (by omega) hl hB, hbook (by omega) hd hB⟩)
      ?_ ⟨hI [] w W1 h0 hb1, hl1, hd1⟩).mono ?_
    · rintro pre x W hpre ⟨hi, hl, hd⟩
      have hlt : w.heap.size + 1 < W.heap.size := (Array.getElem?_eq_some_iff.1 hl).1
      have hy := run_yield (P := P) (args := encs x) hl (by rw [hrec]; exact hps x)
      rw [hrec] at hy
      refine ⟨fn, _, assign, body, hy, roundIn_of_wpIn hfn (wpIn_mono (hround (w.heap.size + 1) pre x W hpre hi (by omega)) ?_)⟩
      rintro e a1 Wa hp
      cases e with
      | normal =>
        obtain ⟨hka, hbd⟩ := hp
        have hla := hka.up _ _ (by omega) hl
        have hda := hka.up _ _ (Nat.le_refl _) hd
        refine ⟨_, run_beginRound hla (by rw [hrec]), wpIn_mono (hbd _ ⟨_, rfl⟩ ⟨_, hla⟩) ?_⟩
        have hlta : w.heap.size + 1 < Wa.heap.size := (Array.getElem?_eq_some_iff.1 hla).1
        have hl2 : (Wa.putObj (w.heap.size + 1) (.loop { rec .ready none with state := .busy })).heap[w.heap.size + 1]? = some (.loop { rec .ready none with state := .busy }) := World.putObj_heap_same hlta
        have hd2 : (Wa.putObj (w.heap.size + 1) (.loop { rec .ready none with state := .busy })).heap[w.heap.size]? = some (.deferred (some [])) := (World.putObj_heap_other (by omega)).trans hda
        have hend : ∀ (jump : Option Code) (W3 : World), KeepUp w.heap.size (Wa.putObj (w.heap.size + 1) (.loop { rec .ready none with state := .busy })) W3 →
            (Instr.endRound (w.heap.size + 1) jump).run P W3 = .ok (.bool jump.isNone) (W3.putObj (w.heap.size + 1) (.loop (rec (if jump.isNone then .ready else .done) jump))) ∧
            (W3.putObj (w.heap.size + 1) (.loop (rec (if jump.isNone then .ready else .done) jump))).heap[w.heap.size + 1]? = some (.loop (rec (if jump.isNone then .ready else .done) jump)) ∧
            (W3.putObj (w.heap.size + 1) (.loop (rec (if jump.isNone then .ready else .done) jump))).heap[w.heap.size]? = some (.deferred (some [])) := fun jump W3 hk3 => by
          have hl3 := hk3.up _ _ (by omega) hl2
          have hd3 := hk3.up _ _ (Nat.le_refl _) hd2
          have he := run_endRound (P := P) jump hl3
          rw [hrec] at he ⊢
          exact ⟨he, World.putObj_heap_same (Array.getElem?_eq_some_iff.1 hl3).1, (World.putObj_heap_other (by omega)).trans hd3⟩
        rintro e2 a3 W3 hq
        cases e2 with
        | normal =>
          obtain ⟨hk3, hi3⟩ := hq
          obtain ⟨hr, hl4, hd4⟩ := hend none W3 hk3
          refine ⟨_, _, hr, .inl ⟨rfl, ⟨hput _ hi3, hl4, hd4⟩, ?_⟩⟩
          exact ((hka.mono (by omega)).trans (KeepUp.put (by omega))).trans ((hk3.mono (by omega)).trans (KeepUp.put (by omega)))
        | ret =>
          obtain ⟨hk3, hi3⟩ := hq
          obtain ⟨hr, hl4, hd4⟩ := hend (some .ret) W3 hk3
          exact ⟨_, _, hr, .inr ⟨rfl, ⟨.ret, hputx _ hi3, hl4, hd4⟩, ((hka.mono (by omega)).trans (KeepUp.put (by omega))).trans ((hk3.mono (by omega)).trans (KeepUp.put (by omega)))⟩⟩
        | exit id =>
          obtain ⟨hk3, hi3⟩ := hq
          obtain ⟨hr, hl4, hd4⟩ := hend (some (.exit id)) W3 hk3
          exact ⟨_, _, hr, .inr ⟨rfl, ⟨.exit id, hputx _ hi3, hl4, hd4⟩, ((hka.mono (by omega)).trans (KeepUp.put (by omega))).trans ((hk3.mono (by omega)).trans (KeepUp.put (by omega)))⟩⟩
        | goto t =>
          obtain ⟨hk3, hi3⟩ := hq
          obtain ⟨hr, hl4, hd4⟩ := hend (some (.goto t)) W3 hk3
          exact ⟨_, _, hr, .inr ⟨rfl, ⟨.goto t, hputx _ hi3, hl4, hd4⟩, ((hka.mono (by omega)).trans (KeepUp.put (by omega))).trans ((hk3.mono (by omega)).trans (KeepUp.put (by omega)))⟩⟩
        | panic ch => exact hq.elim
        | outgrown => exact hq.elim
      | ret => exact hp.elim
      | exit id => exact hp.elim
      | goto t => exact hp.elim
      | panic ch => exact hp.elim
      | outgrown => exact hp.elim
    · rintro e W2 ⟨⟨v, rfl⟩, (⟨hi, hl, hd⟩ | ⟨pre, hpre, c, hi, hl, hd⟩)⟩
      · have he := run_endLoop (P := P) hl (by rw [hrec]; simp)
        rw [hrec] at he
        exact ⟨none, _, he, hdone _ _ (Nat.le_refl _) (hput _ hi) ((World.putObj_heap_other (by omega)).trans hd)⟩
      · have he := run_endLoop (P := P) hl (by rw [hrec]; simp)
        rw [hrec] at he
        exact ⟨some c, _, he, hstop _ c pre _ (Nat.le_refl _) hpre (hputx _ hi) ((World.putObj_heap_other (by omega)).trans hd)⟩
end Go.Proofs.Ytiihdbchchnncaa
