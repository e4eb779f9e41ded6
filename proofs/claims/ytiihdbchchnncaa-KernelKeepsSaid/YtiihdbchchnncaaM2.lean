import Derived.RangeFuncLeaves
import Derived.RangeFuncKeeps
import Derived.RangeFuncWrites
import Derived.RangeFuncNested
import Derived.Shelf.Abstract
import Derived.Shelf.RegionOpen
import Derived.OwnWalkIn
import Derived.TacticsInMore
import Derived.LoopNIn
import Derived.LoopIn
import Derived.RangeFuncBox
import Derived.Maps.OwnIn
import Derived.StringKeys
import Derived.Lib.OwnKind
import Derived.Deep.AppendLies
import Derived.Maps.AppendAt
import Derived.Test.YtiihdbchchnncaaM1
section
namespace Go.Proofs.Ytiihdbchchnncaa
open Go Go.RowKit

theorem fields68 : (Try.prog.fieldsOf 68).toList.map (fun f => (f.name, f.type, f.offset)) = [("Kind", 63, 0), ("Set", 66, 1), ("Sort", 3, 5)] := by kernel_rfl
theorem fields78' : (Try.prog.fieldsOf 78).toList.map (fun f => (f.name, f.type, f.offset)) = [("Parent", 3, 0), ("At", 3, 1), ("Child", 3, 2)] := by kernel_rfl
theorem fields80 : (Try.prog.fieldsOf 80).toList.map (fun f => (f.name, f.type, f.offset)) = [("Sort", 3, 0), ("Not", 66, 1)] := by kernel_rfl

theorem eqf_cons (d : Nat) (xs ys : Array Value) (f : Field) (fs : List Field) (s : String) (t o : Nat) (h : (f.name, f.type, f.offset) = (s, t, o)) (hs : s ≠ "_") (a b : Value) (r : Bool) (w : World)
    (ha : (part t xs o).run Try.prog w = .ok a w) (hb : (part t ys o).run Try.prog w = .ok b w) (hr : (Op.equalIn d t a b).run Try.prog w = .ok r w) :
    (Op.eqFields d xs ys (f :: fs)).run Try.prog w = if r then (Op.eqFields d xs ys fs).run Try.prog w else .ok false w := by
  obtain ⟨rfl, rfl, rfl⟩ : f.name = s ∧ f.type = t ∧ f.offset = o := by simpa using h
  simp only [Op.eqFields, if_pos hs, Sem.run_bind, ha, hb, hr, Result.andThen_ok]
  cases r <;> simp
theorem split_map {α β : Type} {g : α → β} {l : List α} {b : β} {r : List β} (h : l.map g = b :: r) : ∃ x s, l = x :: s ∧ g x = b ∧ s.map g = r := by
  cases l with
  | nil => simp at h
  | cons x s => exact ⟨x, s, rfl, by simpa using h⟩

def symEq (x y : SymM) : Bool := x.kind == y.kind && (x.set == y.set && x.sort == y.sort)
def folEq (x y : FolM) : Bool := x.sort == y.sort && x.not == y.not

theorem eq_set' (n : Nat) (s t : BS) (w : World) : (Op.equalIn (n + 2) 66 (.agg #[.int .u64 (wdI s 0), .int .u64 (wdI s 1), .int .u64 (wdI s 2), .int .u64 (wdI s 3)]) (.agg #[.int .u64 (wdI t 0), .int .u64 (wdI t 1), .int .u64 (wdI t 2), .int .u64 (wdI t 3)])).run Try.prog w = .ok (s == t) w := by
  rw [← vset_beq]; exact eq_words n _ _ _ _ _ _ _ _ w

theorem eq_syms (n : Nat) (x y : SymM) (w : World) : (Op.equalIn (n + 4) 68 (symV x) (symV y)).run Try.prog w = .ok (symEq x y) w := by
  have h1 : Try.prog.underlying 68 = some (.struct (Try.prog.fieldsOf 68)) := by kernel_rfl
  have h2 : Try.prog.stoodInHeld 68 = false := by kernel_rfl
  have u63 : Try.prog.underlying 63 = some (.int .i64) := by kernel_rfl
  have u3 : Try.prog.underlying 3 = some (.int .i64) := by kernel_rfl
  have hf := fields68
  unfold symV
  rw [run_equalIn_struct w (n + 3) 68 _ _ h1 h2]
  revert hf
  generalize (Try.prog.fieldsOf 68).toList = fs
  intro hf
  obtain ⟨f0, fs, rfl, g0, hf⟩ := split_map hf
  obtain ⟨f1, fs, rfl, g1, hf⟩ := split_map hf
  obtain ⟨f2, fs, rfl, g2, hf⟩ := split_map hf
  obtain rfl : fs = [] := by simpa using hf
  obtain ⟨xk, xs, xn⟩ := x
  obtain ⟨yk, ys, yn⟩ := y
  unfold symC symEq
  dsimp only
  rw [eqf_cons (n + 3) _ _ f0 _ _ _ _ g0 (by decide) (.int .i64 xk) (.int .i64 yk) _ w (by kernel_rfl) (by kernel_rfl) (run_equalIn_int w (n + 2) 63 .i64 .i64 xk yk u63),
    eqf_cons (n + 3) _ _ f1 _ _ _ _ g1 (by decide) _ _ _ w (by kernel_rfl) (by kernel_rfl) (eq_set' (n + 1) xs ys w),
    eqf_cons (n + 3) _ _ f2 _ _ _ _ g2 (by decide) (.int .i64 xn) (.int .i64 yn) _ w (by kernel_rfl) (by kernel_rfl) (run_equalIn_int w (n + 2) 3 .i64 .i64 xn yn u3)]
  have e4 : (Op.eqFields (n + 3) (#[.int .i64 xk, .int .u64 (wdI xs 0), .int .u64 (wdI xs 1), .int .u64 (wdI xs 2), .int .u64 (wdI xs 3), .int .i64 xn] : Array Value) (#[.int .i64 yk, .int .u64 (wdI ys 0), .int .u64 (wdI ys 1), .int .u64 (wdI ys 2), .int .u64 (wdI ys 3), .int .i64 yn] : Array Value) []).run Try.prog w = .ok true w := by
    simp [Op.eqFields]
  rw [e4]
  cases xk == yk <;> cases xs == ys <;> cases xn == yn <;> rfl

theorem eq_fors (n : Nat) (x y : ForM) (w : World) : (Op.equalIn (n + 4) 78 (forV x) (forV y)).run Try.prog w = .ok (x.parent == y.parent && (x.at_ == y.at_ && x.child == y.child)) w := by
  have h1 : Try.prog.underlying 78 = some (.struct (Try.prog.fieldsOf 78)) := by kernel_rfl
  have h2 : Try.prog.stoodInHeld 78 = false := by kernel_rfl
  have u3 : Try.prog.underlying 3 = some (.int .i64) := by kernel_rfl
  have hf := fields78'
  unfold forV
  rw [run_equalIn_struct w (n + 3) 78 _ _ h1 h2]
  revert hf
  generalize (Try.prog.fieldsOf 78).toList = fs
  intro hf
  obtain ⟨f0, fs, rfl, g0, hf⟩ := split_map hf
  obtain ⟨f1, fs, rfl, g1, hf⟩ := split_map hf
  obtain ⟨f2, fs, rfl, g2, hf⟩ := split_map hf
  obtain rfl : fs = [] := by simpa using hf
  obtain ⟨xk, xs, xn⟩ := x
  obtain ⟨yk, ys, yn⟩ := y
  unfold forC
  dsimp only
  rw [eqf_cons (n + 3) _ _ f0 _ _ _ _ g0 (by decide) (.int .i64 xk) (.int .i64 yk) _ w (by kernel_rfl) (by kernel_rfl) (run_equalIn_int w (n + 2) 3 .i64 .i64 xk yk u3),
    eqf_cons (n + 3) _ _ f1 _ _ _ _ g1 (by decide) (.int .i64 xs) (.int .i64 ys) _ w (by kernel_rfl) (by kernel_rfl) (run_equalIn_int w (n + 2) 3 .i64 .i64 xs ys u3),
    eqf_cons (n + 3) _ _ f2 _ _ _ _ g2 (by decide) (.int .i64 xn) (.int .i64 yn) _ w (by kernel_rfl) (by kernel_rfl) (run_equalIn_int w (n + 2) 3 .i64 .i64 xn yn u3)]
  have e4 : (Op.eqFields (n + 3) (#[.int .i64 xk, .int .i64 xs, .int .i64 xn] : Array Value) (#[.int .i64 yk, .int .i64 ys, .int .i64 yn] : Array Value) []).run Try.prog w = .ok true w := by
    simp [Op.eqFields]
  rw [e4]
  cases xk == yk <;> cases xs == ys <;> cases xn == yn <;> rfl

theorem eq_fols (n : Nat) (x y : FolM) (w : World) : (Op.equalIn (n + 4) 80 (folV x) (folV y)).run Try.prog w = .ok (folEq x y) w := by
  have h1 : Try.prog.underlying 80 = some (.struct (Try.prog.fieldsOf 80)) := by kernel_rfl
  have h2 : Try.prog.stoodInHeld 80 = false := by kernel_rfl
  have u3 : Try.prog.underlying 3 = some (.int .i64) := by kernel_rfl
  have hf := fields80
  unfold folV
  rw [run_equalIn_struct w (n + 3) 80 _ _ h1 h2]
  revert hf
  generalize (Try.prog.fieldsOf 80).toList = fs
  intro hf
  obtain ⟨f0, fs, rfl, g0, hf⟩ := split_map hf
  obtain ⟨f1, fs, rfl, g1, hf⟩ := split_map hf
  obtain rfl : fs = [] := by simpa using hf
  obtain ⟨xk, xs⟩ := x
  obtain ⟨yk, ys⟩ := y
  unfold folC folEq
  dsimp only
  rw [eqf_cons (n + 3) _ _ f0 _ _ _ _ g0 (by decide) (.int .i64 xk) (.int .i64 yk) _ w (by kernel_rfl) (by kernel_rfl) (run_equalIn_int w (n + 2) 3 .i64 .i64 xk yk u3),
    eqf_cons (n + 3) _ _ f1 _ _ _ _ g1 (by decide) _ _ _ w (by kernel_rfl) (by kernel_rfl) (eq_set' (n + 1) xs ys w)]
  have e4 : (Op.eqFields (n + 3) (#[.int .i64 xk, .int .u64 (wdI xs 0), .int .u64 (wdI xs 1), .int .u64 (wdI xs 2), .int .u64 (wdI xs 3)] : Array Value) (#[.int .i64 yk, .int .u64 (wdI ys 0), .int .u64 (wdI ys 1), .int .u64 (wdI ys 2), .int .u64 (wdI ys 3)] : Array Value) []).run Try.prog w = .ok true w := by
    simp [Op.eqFields]
  rw [e4]
  cases xk == yk <;> cases xs == ys <;> rfl
end Go.Proofs.Ytiihdbchchnncaa
end
section
namespace Go.Proofs.Ytiihdbchchnncaa
open Go Go.RowKit

/-! A range over a function whose function has memory of its own, that it writes between two rounds: what the loop's owner says hangs on blocks below the loop alone. -/

/-- All that lies at B or above lies as it lay. -/
structure KeepUp (B : Nat) (W W' : World) : Prop where
  size : W.heap.size ≤ W'.heap.size
  up : ∀ (k : Nat) (o : Obj), B ≤ k → W.heap[k]? = some o → W'.heap[k]? = some o
theorem KeepUp.refl (B : Nat) (W : World) : KeepUp B W W := ⟨Nat.le_refl _, fun _ _ _ h => h⟩
theorem KeepUp.trans {B : Nat} {X Y Z : World} (h : KeepUp B X Y) (k : KeepUp B Y Z) : KeepUp B X Z :=
  ⟨Nat.le_trans h.size k.size, fun i o hB ho => k.up i o hB (h.up i o hB ho)⟩
theorem KeepUp.mono {A B : Nat} {X Y : World} (h : KeepUp A X Y) (hAB : A ≤ B) : KeepUp B X Y := ⟨h.size, fun i o hB ho => h.up i o (by omega) ho⟩
theorem KeepUp.of_below {B n : Nat} {X Y : World} (h : Below n X Y) (hn : X.heap.size ≤ n) : KeepUp B X Y :=
  ⟨h.size, fun i o _ ho => (h.block i (by have := (Array.getElem?_eq_some_iff.1 ho).1; omega)).trans ho⟩
theorem KeepUp.put {B l : Nat} {X : World} {o : Obj} (hl : l < B) : KeepUp B X (X.putObj l o) :=
  ⟨(grownBy_putObj' _ _ _).size, fun i o' hB ho => (World.putObj_heap_other (by omega)).trans ho⟩
theorem KeepUp.set {B b i : Nat} {X : World} (hb : b < B) (v : Value) : KeepUp B X (X.setCell ⟨b, i, none⟩ v) :=
  ⟨by rw [World.size_setCell]; exact Nat.le_refl _, fun k o hk ho => (Below.heap_setCell X ⟨b, i, none⟩ v k (by show k ≠ b; omega)).trans ho⟩
theorem KeepUp.drew {B : Nat} {X Y : World} (h : KeepUp B X Y) : KeepUp B X Y.drew := ⟨h.size, h.up⟩
theorem KeepUp.setR {B b i : Nat} {X Y : World} (h : KeepUp B X Y) (hb : b < B) (v : Value) : KeepUp B X (Y.setCell ⟨b, i, none⟩ v) := h.trans (KeepUp.set hb v)
theorem putB {n D : Nat} {w W : World} {o : Obj} (h : Below n w W) (hD : n ≤ D) : Below n w (W.putObj D o) :=
  ⟨h.os, h.tape, h.output, Nat.le_trans h.size (grownBy_putObj' _ _ _).size, fun k hk => (World.putObj_heap_other (by omega)).trans (h.block k hk)⟩

/-- The iterator's word: these elements, in order, as long as it is told to go on. -/
def LowSeq {α : Type} (n : Nat) (P : Program) (g : Nat) (lb : Array Value) (encs : α → Array Value) (xs : List α) (R : World → Prop) (w : World) : Prop :=
  ∀ (l : Nat) (J Jx : List α → World → Prop) (W : World), Below w.heap.size w W → (∀ s A, J s A → R A) →
    (∀ s A B, J s A → Below W.heap.size A B → J s B) → (∀ s A B, Jx s A → Below W.heap.size A B → Jx s B) →
    (∀ pre x W1, pre ++ [x] <+: xs → J pre W1 → YieldAt Fence.wide (n - 1) P l (encs x) W1 fun e W' =>
      (e = .returned (.bool true) ∧ J (pre ++ [x]) W' ∧ KeepUp W.heap.size W1 W') ∨ (e = .returned (.bool false) ∧ Jx (pre ++ [x]) W' ∧ KeepUp W.heap.size W1 W')) →
    J [] W → CallsIn Fence.wide n P g (#[.func (.yield l) #[] #[]] ++ lb) W fun e W' => (∃ v, e = .returned v) ∧ (J xs W' ∨ ∃ pre, pre <+: xs ∧ Jx pre W')

/-- How a round's body may be left. -/
def lowPost {α : Type} (B : Nat) (I : List α → World → Prop) (Ix : Code → List α → World → Prop) (ys : List α) (W : World) : Exit → Act → World → Prop
  | .normal, _, W' => KeepUp B W W' ∧ I ys W'
  | .ret, _, W' => KeepUp B W W' ∧ Ix .ret ys W'
  | .exit id, _, W' => KeepUp B W W' ∧ Ix (.exit id) ys W'
  | .goto t, _, W' => KeepUp B W W' ∧ Ix (.goto t) ys W'
  | .panic _, _, _ => False
  | .outgrown, _, _ => False

theorem rangeFunc_low {α : Type} {P : Program} {n : Nat} {g : Operand} {ps : Array Tmp} {assign body : Code} {Q : Exit → Act → World → Prop} {a : Act} {w : World}
    (h1 : 1 ≤ n) {gf : Nat} {lb : Array Value} (hg : a.eval g = .func (.func gf) #[] lb) (eg : ∀ args w, (callFunc gf args).run P w = .ok (.enter gf args) w)
    {encs : α → Array Value} {xs : List α} {R : World → Prop} (hseq : LowSeq (n - 1) P gf lb encs xs R w) (hps : ∀ x, (encs x).size = ps.size)
    (I : List α → World → Prop) (Ix : Code → List α → World → Prop) (hI : ∀ s A B, I s A → Below w.heap.size A B → I s B) (hIx : ∀ c s A B, Ix c s A → Below w.heap.size A B → Ix c s B) (hIR : ∀ s A, I s A → R A) (h0 : I [] w)
    (hround : ∀ (l : Nat) (pre : List α) (x : α) (W : World), pre ++ [x] <+: xs → I pre W → w.heap.size + 2 ≤ W.heap.size →
      assign.wpIn (Fence.wide.inRound l) (n - 1 - 1) P (Exit.then (fun a₁ W₁ => KeepUp w.heap.size W W₁ ∧ ∀ W₂, (∃ o, W₂ = W₁.putObj (w.heap.size + 1) o) → (∃ r, W₁.heap[w.heap.size + 1]? = some (.loop r)) →
        body.wpIn (Fence.wide.inRound l) (n - 1 - 1) P (lowPost w.heap.size I Ix (pre ++ [x]) W₂) a₁ W₂) (fun _ _ _ => False))
        { tmps := (ps.zip (encs x)).foldl (fun t (p, v) => t.setIfInBounds p v) a.tmps, defers := [] } W)
    (hdone : ∀ (D : Nat) (W : World), w.heap.size ≤ D → I xs W → W.heap[D]? = some (.deferred (some [])) → Q .normal { a with defers := { target := .collected D, args := #[] } :: a.defers } W)
    (hstop : ∀ (D : Nat) (c : Code) (pre : List α) (W : World), w.heap.size ≤ D → pre <+: xs → Ix c pre W → W.heap[D]? = some (.deferred (some [])) → c.wpIn Fence.wide n P Q { a with defers := { target := .collected D, args := #[] } :: a.defers } W) :
    (Code.rangeFunc g ps assign body).wpIn Fence.wide n P Q a w := by
  refine wpIn_rangeFunc fun fn hfn => ?_
  obtain ⟨rec, hrec⟩ : ∃ rec : LoopState → Option Code → Loop, rec = fun st pe => { state := st, pending := pe, fn, tmps := a.tmps, params := ps, assign, body, defers := w.heap.size } := ⟨_, rfl⟩
  obtain ⟨W1, hW1⟩ : ∃ W1, W1 = (w.alloc (.deferred (some []))).alloc (.loop (rec .ready none)) := ⟨_, rfl⟩
  have hs1 : W1.heap.size = w.heap.size + 2 := by rw [hW1]; simp
  have hb1 : Below w.heap.size w W1 := by rw [hW1]; exact ((Below.refl _ w).alloc (Nat.le_refl _) _).alloc (by simp) _
  have hl1 : W1.heap[w.heap.size + 1]? = some (.loop (rec .ready none)) := by
    have h := World.alloc_heap_new (w.alloc (.deferred (some []))) (.loop (rec .ready none))
    rw [World.size_alloc] at h
    rw [hW1]; exact h
  have hd1 : W1.heap[w.heap.size]? = some (.deferred (some [])) := by
    rw [hW1]; exact (Below.heap_alloc _ _ _ (by simp)).trans (World.alloc_heap_new w _)
  refine ⟨w.heap.size + 1, [{ target := .collected w.heap.size, args := #[] }], W1, { target := .fn (.func gf) lb, args := #[.func (.yield (w.heap.size + 1)) #[] #[]] }, W1, gf,
    #[.func (.yield (w.heap.size + 1)) #[] #[]] ++ lb, W1, ?_, ?_, fun _ _ => trivial, ?_, fun _ => h1, ?_⟩
  · rw [hW1, hrec]; exact run_enterLoop_outer _ _ _ _ _
  · simp only [resolve, hg]
    simp [go_sem]
  · simp [invoke, go_sem, eg]
  · -- what the owner says, beside the loop's two blocks
    have hbook : ∀ {A B : World} {k : Nat} {o : Obj}, k < w.heap.size + 2 → A.heap[k]? = some o → Below W1.heap.size A B → B.heap[k]? = some o := fun hk ho hB => (hB.block _ (by omega)).trans ho
    have hput : ∀ {W : World} {s : List α} (o : Obj), I s W → I s (W.putObj (w.heap.size + 1) o) := fun {W s} o h => hI s W _ h ⟨rfl, rfl, rfl, (grownBy_putObj' _ _ _).size, fun k hk => World.putObj_heap_other (by omega)⟩
    have hputx : ∀ {W : World} {s : List α} {c : Code} (o : Obj), Ix c s W → Ix c s (W.putObj (w.heap.size + 1) o) := fun {W s c} o h => hIx c s W _ h ⟨rfl, rfl, rfl, (grownBy_putObj' _ _ _).size, fun k hk => World.putObj_heap_other (by omega)⟩
    refine (hseq (w.heap.size + 1)
      (fun pre W => I pre W ∧ W.heap[w.heap.size + 1]? = some (.loop (rec .ready none)) ∧ W.heap[w.heap.size]? = some (.deferred (some [])))
      (fun pre W => ∃ c, Ix c pre W ∧ W.heap[w.heap.size + 1]? = some (.loop (rec .done (some c))) ∧ W.heap[w.heap.size]? = some (.deferred (some [])))
      W1 hb1 (fun s A h => hIR s A h.1)
      (fun s A B h hB => ⟨hI s A B h.1 (hB.mono (by omega)), hbook (by omega) h.2.1 hB, hbook (by omega) h.2.2 hB⟩)
      (fun s A B h hB => by
        obtain ⟨c, hc, hl, hd⟩ := h
        exact ⟨c, hIx c s A B hc (hB.mono (by omega)), hbook (by omega) hl hB, hbook (by omega) hd hB⟩)
      ?_ ⟨hI [] w W1 h0 hb1, hl1, hd1⟩).mono ?_
    · rintro pre x W hpre ⟨hi, hl, hd⟩
      have hlt : w.heap.size + 1 < W.heap.size := (Array.getElem?_eq_some_iff.1 hl).1
      have hy := run_yield (P := P) (args := encs x) hl (by rw [hrec]; exact hps x)
      rw [hrec] at hy
      refine ⟨fn, _, assign, body, hy, roundIn_of_wpIn hfn (wpIn_mono (hround (w.heap.size + 1) pre x W hpre hi (by omega)) ?_)⟩
      rintro e a1 Wa hp
      cases e with
      | normal =>
        obtain ⟨hka, hbd⟩ := hp
        have hla := hka.up _ _ (by omega) hl
        have hda := hka.up _ _ (Nat.le_refl _) hd
        refine ⟨_, run_beginRound hla (by rw [hrec]), wpIn_mono (hbd _ ⟨_, rfl⟩ ⟨_, hla⟩) ?_⟩
        have hlta : w.heap.size + 1 < Wa.heap.size := (Array.getElem?_eq_some_iff.1 hla).1
        have hl2 : (Wa.putObj (w.heap.size + 1) (.loop { rec .ready none with state := .busy })).heap[w.heap.size + 1]? = some (.loop { rec .ready none with state := .busy }) := World.putObj_heap_same hlta
        have hd2 : (Wa.putObj (w.heap.size + 1) (.loop { rec .ready none with state := .busy })).heap[w.heap.size]? = some (.deferred (some [])) := (World.putObj_heap_other (by omega)).trans hda
        have hend : ∀ (jump : Option Code) (W3 : World), KeepUp w.heap.size (Wa.putObj (w.heap.size + 1) (.loop { rec .ready none with state := .busy })) W3 →
            (Instr.endRound (w.heap.size + 1) jump).run P W3 = .ok (.bool jump.isNone) (W3.putObj (w.heap.size + 1) (.loop (rec (if jump.isNone then .ready else .done) jump))) ∧
            (W3.putObj (w.heap.size + 1) (.loop (rec (if jump.isNone then .ready else .done) jump))).heap[w.heap.size + 1]? = some (.loop (rec (if jump.isNone then .ready else .done) jump)) ∧
            (W3.putObj (w.heap.size + 1) (.loop (rec (if jump.isNone then .ready else .done) jump))).heap[w.heap.size]? = some (.deferred (some [])) := fun jump W3 hk3 => by
          have hl3 := hk3.up _ _ (by omega) hl2
          have hd3 := hk3.up _ _ (Nat.le_refl _) hd2
          have he := run_endRound (P := P) jump hl3
          rw [hrec] at he ⊢
          exact ⟨he, World.putObj_heap_same (Array.getElem?_eq_some_iff.1 hl3).1, (World.putObj_heap_other (by omega)).trans hd3⟩
        rintro e2 a3 W3 hq
        cases e2 with
        | normal =>
          obtain ⟨hk3, hi3⟩ := hq
          obtain ⟨hr, hl4, hd4⟩ := hend none W3 hk3
          refine ⟨_, _, hr, .inl ⟨rfl, ⟨hput _ hi3, hl4, hd4⟩, ?_⟩⟩
          exact ((hka.mono (by omega)).trans (KeepUp.put (by omega))).trans ((hk3.mono (by omega)).trans (KeepUp.put (by omega)))
        | ret =>
          obtain ⟨hk3, hi3⟩ := hq
          obtain ⟨hr, hl4, hd4⟩ := hend (some .ret) W3 hk3
          exact ⟨_, _, hr, .inr ⟨rfl, ⟨.ret, hputx _ hi3, hl4, hd4⟩, ((hka.mono (by omega)).trans (KeepUp.put (by omega))).trans ((hk3.mono (by omega)).trans (KeepUp.put (by omega)))⟩⟩
        | exit id =>
          obtain ⟨hk3, hi3⟩ := hq
          obtain ⟨hr, hl4, hd4⟩ := hend (some (.exit id)) W3 hk3
          exact ⟨_, _, hr, .inr ⟨rfl, ⟨.exit id, hputx _ hi3, hl4, hd4⟩, ((hka.mono (by omega)).trans (KeepUp.put (by omega))).trans ((hk3.mono (by omega)).trans (KeepUp.put (by omega)))⟩⟩
        | goto t =>
          obtain ⟨hk3, hi3⟩ := hq
          obtain ⟨hr, hl4, hd4⟩ := hend (some (.goto t)) W3 hk3
          exact ⟨_, _, hr, .inr ⟨rfl, ⟨.goto t, hputx _ hi3, hl4, hd4⟩, ((hka.mono (by omega)).trans (KeepUp.put (by omega))).trans ((hk3.mono (by omega)).trans (KeepUp.put (by omega)))⟩⟩
        | panic ch => exact hq.elim
        | outgrown => exact hq.elim
      | ret => exact hp.elim
      | exit id => exact hp.elim
      | goto t => exact hp.elim
      | panic ch => exact hp.elim
      | outgrown => exact hp.elim
    · rintro e W2 ⟨⟨v, rfl⟩, (⟨hi, hl, hd⟩ | ⟨pre, hpre, c, hi, hl, hd⟩)⟩
      · have he := run_endLoop (P := P) hl (by rw [hrec]; simp)
        rw [hrec] at he
        exact ⟨none, _, he, hdone _ _ (Nat.le_refl _) (hput _ hi) ((World.putObj_heap_other (by omega)).trans hd)⟩
      · have he := run_endLoop (P := P) hl (by rw [hrec]; simp)
        rw [hrec] at he
        exact ⟨some c, _, he, hstop _ c pre _ (Nat.le_refl _) hpre (hputx _ hi) ((World.putObj_heap_other (by omega)).trans hd)⟩
end Go.Proofs.Ytiihdbchchnncaa
end
section
namespace Go.Proofs.Ytiihdbchchnncaa
open Go Go.RowKit Go.Shelf Go.Maps

attribute [local go_sem] Oper.semAt_some

/-- The first m names with their numbers, from the last one on. -/
def bk (l : List ByteArray) (m : Nat) : List (Nat × ByteArray) := ((l.take m).zipIdx.map fun p => (p.2, p.1)).reverse
theorem bk_succ (l : List ByteArray) (m : Nat) (x : ByteArray) (h : l[m]? = some x) : bk l (m + 1) = (m, x) :: bk l m := by
  have hm : m < l.length := (List.getElem?_eq_some_iff.1 h).1
  unfold bk
  rw [List.take_add_one, h]
  simp only [Option.toList_some, List.zipIdx_append, List.map_append, List.reverse_append, List.length_take, Nat.min_eq_left (Nat.le_of_lt hm)]
  simp
def encB (x : Nat × ByteArray) : Array Value := #[.int .i64 x.1, .string x.2]

set_option maxRecDepth 100000 in
set_option maxHeartbeats 1000000 in
theorem back_low (n : Nat) (hn : 1 ≤ n) (Bn : Nat) (a : Option Addr) (c : Nat) (l : List ByteArray) (hl : l.length ≤ 1048576) (w : World) :
    LowSeq n Try.prog 86 #[.pointer (some ⟨Bn, 0, none⟩)] encB (bk l l.length) (fun A => A.cell? ⟨Bn, 0, none⟩ = some (.slice a l.length c) ∧ RowStr A a l) w := by
  intro L J Jx W hW hR hJ hJx hY h0
  have HR := Lib.hid hR
  have HY := Lib.hid hY
  obtain ⟨hBn, _⟩ := hR _ _ h0
  clear hR hY hJ hJx
  refine callsIn_of_wp Try.func86 rfl trivial ?_ rfl
  simp only [Try.ntmps86, List.size_toArray, List.length_cons, List.length_nil, Nat.reduceAdd, Nat.reduceSub, Array.replicate_succ, Array.replicate_zero, List.push_toArray, List.append_toArray, List.nil_append, List.cons_append]
  gi_wp2
  gi_loopw [3] (fun p wr => ∃ (pre : List (Nat × ByteArray)) (m : Nat) (z : Int), p = .int .i64 z ∧ z + 1 = m ∧ m ≤ l.length ∧ Hid (bk l l.length = pre ++ bk l m) ∧ J pre wr)
    (fun p _ => (intOf p + 1).toNat)
  case atStart => exact ⟨[], l.length, _, rfl, by omega, Nat.le_refl _, Lib.hid rfl, h0⟩
  case round =>
    clear h0 hBn
    obtain ⟨pre, m, z, rfl, hz, hm, hx, hJs⟩ := hrel
    obtain ⟨hcell, hrow⟩ := HR.out _ _ hJs
    by_cases hneg : z < 0
    · obtain rfl : m = 0 := by omega
      have hx2 : Hid (bk l l.length = pre) := Lib.hid (by rw [hx.out]; simp [bk])
      clear hz hx hrow
      gi_wp2
      go_end0
      exact ⟨⟨_, rfl⟩, .inl (by rw [hx2.out]; exact hJs)⟩
    · obtain ⟨k, rfl⟩ := Int.eq_ofNat_of_zero_le (a := z) (by omega)
      obtain rfl : m = k + 1 := by omega
      obtain ⟨x, hxk⟩ : ∃ x, l[k]? = some x := ⟨_, List.getElem?_eq_getElem (by omega)⟩
      have hs : Hid (bk l (k + 1) = (k, x) :: bk l k) := Lib.hid (bk_succ l k x hxk)
      obtain ⟨b, off, rfl, hbw, hc, _⟩ := hrow k x hxk
      have c0 := Str_at hc
      rw [Nat.mul_one] at c0
      have hkl : (k : Int) < (l.length : Int) := by omega
      obtain ⟨fn, tmps, assign, body, hy, hRd⟩ := HY.out pre (k, x) wr (by rw [hx.out, hs.out]; exact ⟨bk l k, by simp⟩) hJs
      have HRd := Lib.hid hRd
      have hx3 : Hid (bk l l.length = (pre ++ [(k, x)]) ++ bk l k) := Lib.hid (by rw [hx.out, hs.out]; simp)
      have hk2 : k ≤ l.length := by omega
      dsimp only [encB] at hy
      clear hrow hc hs hx hxk hm hz hneg hRd
      gi_wp2
      refine HRd.out.mono ?_
      rintro e W3 (⟨rfl, hJ3, _⟩ | ⟨rfl, hJx3, _⟩)
      · gi_wp2
        go_roundw
        case rel => exact ⟨pre ++ [(k, x)], k, (k : Int) - 1, by simp, by omega, hk2, hx3, hJ3⟩
        case measure => simp [intOf]
      · gi_wp2
        refine bodyPost_ret (results_none rfl _ _ _) rfl ?_
        exact ⟨⟨_, rfl⟩, .inr ⟨_, by rw [hx3.out]; exact List.prefix_append _ _, hJx3⟩⟩

/-- The map of names to numbers behind so many of them. -/
def nameD (pre : List (Nat × ByteArray)) : DataW Unit := pre.foldl (fun D x => D.put (.string x.2.data.toList) (.lit (.int .i64 x.1))) (.map [])
theorem nameD_snoc (pre : List (Nat × ByteArray)) (x : Nat × ByteArray) : nameD (pre ++ [x]) = (nameD pre).put (.string x.2.data.toList) (.lit (.int .i64 x.1)) := by simp [nameD, List.foldl_append]
noncomputable abbrev el3 := plainElem (H := Unit) Try.prog 3

theorem backward_any (a : Option Addr) (n c : Nat) (w : World) : Calls Try.prog 64 #[.slice a n c] w fun e w' => e = .returned (.func (.func 86) #[] #[.pointer (some ⟨w.heap.size, 0, none⟩)]) ∧ w' = w.alloc (.cells #[.slice a n c] 22) := by
  go_enter Try.func64, Try.ntmps64
  go_wp2
  go_ret
  exact ⟨rfl, rfl⟩

/-- What byName's blocks hold. -/
structure NB (w : World) (a : Option Addr) (c : Nat) (l : List ByteArray) (pre : List (Nat × ByteArray)) (W : World) : Prop where
  box : Blk W (w.heap.size + 1) 89 #[.map (some w.heap.size)]
  arg : Blk W (w.heap.size + 1 + 1) 22 #[.slice a l.length c]
  own : W.ownsMap Try.prog 9 el3 w.heap.size pre.length (nameD pre)
  b : Below w.heap.size w W
theorem own_block {W W' : World} {b n : Nat} {D : DataW Unit} (h : W.ownsMap Try.prog 9 el3 b n D) (hb : W'.heap[b]? = W.heap[b]?) : W'.ownsMap Try.prog 9 el3 b n D := by
  obtain ⟨es, clock, e1, e2⟩ := h
  exact ⟨es, clock, hb.trans e1, e2⟩
theorem NB.low {w W W' : World} {a : Option Addr} {c : Nat} {l : List ByteArray} {pre : List (Nat × ByteArray)} (h : NB w a c l pre W) (hB : Below (w.heap.size + 3) W W') : NB w a c l pre W' :=
  ⟨h.box.below hB (by omega), h.arg.below hB (by omega), own_block h.own (hB.block _ (by omega)), h.b.trans (hB.mono (by omega))⟩

set_option maxRecDepth 100000 in
set_option maxHeartbeats 2000000 in
theorem byName_in (n : Nat) (hn : 8 ≤ n) (a : Option Addr) (c : Nat) (l : List ByteArray) (hl : l.length ≤ 1048576) (hs : ∀ s, s ∈ l → s.size ≤ 1048576) (w : World) (hrow : RowStr w a l) :
    CallsIn Fence.wide n Try.prog 41 #[.slice a l.length c] w fun e w' => e = .returned (.map (some w.heap.size)) ∧ w'.ownsMap Try.prog 9 el3 w.heap.size l.length (nameD (bk l l.length)) ∧ Below w.heap.size w w' := by
  have h1 : 1 ≤ n := by omega
  have hmm := @run_makeMap Try.prog
  have HS := Lib.hid hs
  have HRow := Lib.hid hrow
  clear hs hrow
  refine callsIn_of_wp_marks Try.func41 rfl trivial ?_ rfl
  simp only [Try.ntmps41, List.size_toArray, List.length_cons, List.length_nil, Nat.reduceAdd, Nat.reduceSub, Array.replicate_succ, Array.replicate_zero, List.push_toArray, List.append_toArray, List.nil_append, List.cons_append]
  gi_wp2_with (refine ⟨trivial, ?_⟩; gi_at_call 64; refine (callsIn_wide.2 (backward_any a _ c _)).mono ?_; rintro e w' ⟨rfl, rfl⟩)
  obtain ⟨W0, hW0⟩ : ∃ W0, W0 = ((w.alloc (.map #[] 0)).alloc (.cells #[.map (some w.heap.size)] 89)).alloc (.cells #[.slice a l.length c] 22) := ⟨_, rfl⟩
  have hs0 : W0.heap.size = w.heap.size + 3 := by rw [hW0]; simp
  have hI0 : NB w a c l [] W0 := by
    have k1 := Blk.new (w.alloc (.map #[] 0)) 89 #[.map (some w.heap.size)]
    have k2 := Blk.new ((w.alloc (.map #[] 0)).alloc (.cells #[.map (some w.heap.size)] 89)) 22 #[.slice a l.length c]
    simp only [World.size_alloc] at k1 k2
    rw [hW0]
    exact ⟨k1.alloc _, k2, ((World.ownsMap_made w Try.prog 9 el3).alloc _).alloc _, (((Below.refl _ w).alloc (Nat.le_refl _) _).alloc (by simp) _).alloc (by simp; omega) _⟩
  rw [← hW0]
  clear hW0
  have hlen : (bk l l.length).length = l.length := by simp [bk]
  refine rangeFunc_low h1 (gf := 86) (lb := #[.pointer (some ⟨w.heap.size + 1 + 1, 0, none⟩)]) rfl (enters_of Try.func86 (by kernel_rfl) rfl)
    (back_low (n - 1) (by omega) (w.heap.size + 1 + 1) a c l hl W0) (fun _ => rfl)
    (fun pre W => NB w a c l pre W) (fun _ _ _ => False)
    (fun t A B h hB => h.low (by rw [← hs0]; exact hB)) (fun c t A B h hB => h)
    (fun t A h => ⟨h.arg.cell 0, HRow.out.belowN h.b⟩) hI0 ?round ?done ?stop
  case round =>
    intro lp pre x W hpre hI hsz
    have hpl := hpre.length_le
    rw [List.length_append, List.length_singleton, hlen] at hpl
    obtain ⟨i, s⟩ := x
    have hmem : s ∈ l := by
      have : (i, s) ∈ bk l l.length := hpre.subset (by simp)
      unfold bk at this
      rw [List.mem_reverse, List.mem_map] at this
      obtain ⟨p, hp, e⟩ := this
      cases e
      have := List.mem_zipIdx hp
      rw [List.take_length] at hp
      obtain ⟨h1, h2⟩ := List.mem_zipIdx' hp
      rw [h2]; exact List.getElem_mem _
    have hi : i < 1048576 := by
      have : (i, s) ∈ bk l l.length := hpre.subset (by simp)
      unfold bk at this
      rw [List.mem_reverse, List.mem_map] at this
      obtain ⟨p, hp, e⟩ := this
      cases e
      rw [List.take_length] at hp
      obtain ⟨h1, h2⟩ := List.mem_zipIdx' hp
      omega
    have HK := Lib.hid (WideMaps.keyOf_string_mk Try.underlying9 (s := s) (by have := HS.out s hmem; unfold maxLen; omega))
    have HQ := Lib.hid (nameD_snoc pre (i, s))
    simp only [encB]
    gi_wp2
    refine ⟨KeepUp.refl _ _, ?_⟩
    intro o
    intros
    obtain ⟨W2, hW2⟩ : ∃ W2, W2 = W.putObj (w.heap.size + 3 + 1) o := ⟨_, rfl⟩
    have hI2 : NB w a c l pre W2 := hI.low (by rw [hW2]; exact putB (Below.refl _ W) (by omega))
    rw [← hW2]
    have c0 := hI2.box.cell 0
    simp only [List.getElem?_toArray, List.getElem?_cons_zero] at c0
    have hown := hI2.own
    have l3 := hI2.arg.lt
    have HI2 := Lib.hid hI2
    clear hI2 hI hI0 hW2 hmem
    gi_wp2_with (gi_at_mapUpdate; refine wpListIn_mapUpdate_own _ rfl _ _ _ 89 rfl 9 3 key9 Try.underlying89 el3 w.heap.size pre.length _ rfl hown (by unfold maxLen; omega) _ _ _ rfl rfl HK.out _ [] (plainElem_int Try.underlying3 (wf_int (n := (i : Int)) ⟨by omega, by omega⟩)) ?_; intro w1 hown1 hgrow1)
    have hb1 : ∀ k, k ≠ w.heap.size → k < W2.heap.size → w1.heap[k]? = W2.heap[k]? := fun k hk hlt => hgrow1.block k hlt (fun e => hk (by cases e; rfl))
    refine ⟨⟨hgrow1.size, fun k o hk ho => ?_⟩, ?_⟩
    · rw [hb1 k (by omega) (Array.getElem?_eq_some_iff.1 ho).1]; exact ho
    · refine ⟨(hb1 _ (by omega) (by omega)).trans HI2.out.box, (hb1 _ (by omega) (by omega)).trans HI2.out.arg, ?_, HI2.out.b.grown hgrow1 HI2.out.b.size (fun j hj => by cases hj; exact Nat.le_refl _)⟩
      rw [HQ.out, List.length_append]
      exact hown1
  case done =>
    intro D W1 hD hI1 hK1
    have c0 := hI1.box.cell 0
    simp only [List.getElem?_toArray, List.getElem?_cons_zero] at c0
    have HI1 := Lib.hid hI1
    clear hI1 hI0
    gi_wp2
    refine ⟨by simp, .inl ⟨_, _, rfl, run_takeDeferred hK1, ?_⟩⟩
    refine ⟨_, results_tmp rfl _ _ _, rfl, ?_, putB HI1.out.b (by omega)⟩
    have h := own_block HI1.out.own (W' := W1.putObj D (.deferred none)) (World.putObj_heap_other (by omega))
    rw [hlen] at h
    exact h
  case stop =>
    rintro _ _ _ _ _ _ h
    exact h.elim
end Go.Proofs.Ytiihdbchchnncaa
end
section
namespace Go.Proofs.Ytiihdbchchnncaa
open Go Go.RowKit Go.Maps Go.WideMaps

/-- The map of names to their first numbers. -/
def nm : Nat → List ByteArray → DataW Unit
  | _, [] => .map []
  | off, x :: r => (nm (off + 1) r).put (.string x.data.toList) (.lit (.int .i64 (off : Nat)))
theorem nm_bk (l : List ByteArray) : nameD (bk l l.length) = nm 0 l := by
  have h : ∀ (l : List ByteArray) (off : Nat), ((l.zipIdx off).map fun p => (p.2, p.1)).foldr (fun x D => D.put (.string x.2.data.toList) (.lit (.int .i64 (x.1 : Nat)))) (.map [] : DataW Unit) = nm off l := by
    intro l
    induction l with
    | nil => intro off; rfl
    | cons x r ih =>
      intro off
      rw [List.zipIdx_cons, List.map_cons, List.foldr_cons, ih]
      rfl
  unfold nameD bk
  rw [List.take_length, List.foldl_reverse, ← h l 0]
def strEq (a b : ByteArray) : Bool := a.data.toList == b.data.toList
theorem strEq_comm (a b : ByteArray) : strEq a b = strEq b a := by
  unfold strEq
  rw [Bool.eq_iff_iff, beq_iff_eq, beq_iff_eq]
  exact eq_comm
theorem nm_tidy (l : List ByteArray) (hs : ∀ s, s ∈ l → s.size ≤ 1048576) : ∀ off, Tidy (nm off l) := by
  induction l with
  | nil => intro off; exact tidy_empty
  | cons x r ih =>
    intro off
    exact (ih (fun s h => hs s (by simp [h])) (off + 1)).put (key9.key (keyOf_string_mk Try.underlying9 (s := x) (by have := hs x (by simp); unfold maxLen; omega))) _
theorem name_key (x : ByteArray) (h : x.size ≤ 1048576) : WideAt.IsKeyLit (.string x.data.toList) := key9.key (keyOf_string_mk Try.underlying9 (s := x) (by unfold maxLen; omega))
theorem nm_has (l : List ByteArray) (hs : ∀ s, s ∈ l → s.size ≤ 1048576) (k : ByteArray) : ∀ off, has (nm off l) (.string k.data.toList) = l.any (fun s => strEq s k) := by
  induction l with
  | nil => intro off; rfl
  | cons x r ih =>
    intro off
    have ih := ih (fun s h => hs s (by simp [h])) (off + 1)
    rw [List.any_cons]
    by_cases e : x.data.toList = k.data.toList
    · have : strEq x k = true := by unfold strEq; simpa using e
      rw [this, Bool.true_or, nm, e]
      rw [← e]
      exact has_put_same (nm_tidy r (fun s h => hs s (by simp [h])) _).isMap (name_key x (hs x (by simp))) _
    · have : strEq x k = false := by unfold strEq; simpa using e
      rw [this, Bool.false_or, ← ih, nm]
      exact has_put_other (fun h => e (by injection h with h; exact h.symm)) _
theorem nm_size (l : List ByteArray) (hs : ∀ s, s ∈ l → s.size ≤ 1048576) : ∀ off, size (nm off l) ≤ l.length ∧ decide (size (nm off l) = l.length) = onceA strEq [] l := by
  induction l with
  | nil => intro off; exact ⟨Nat.le_refl _, rfl⟩
  | cons x r ih =>
    intro off
    obtain ⟨i1, i2⟩ := ih (fun s h => hs s (by simp [h])) (off + 1)
    have hh := nm_has r (fun s h => hs s (by simp [h])) x (off + 1)
    have hsz : size (nm off (x :: r)) = if has (nm (off + 1) r) (.string x.data.toList) then size (nm (off + 1) r) else size (nm (off + 1) r) + 1 :=
      size_put (nm_tidy r (fun s h => hs s (by simp [h])) _) _
    rw [hh] at hsz
    rw [hsz]
    have hp : onceA strEq [] (x :: r) = (!(r.any fun s => strEq s x) && onceA strEq [] r) := by
      rw [Bool.eq_iff_iff, onceA_iff, Bool.and_eq_true, onceA_iff, List.pairwise_cons]
      simp only [List.not_mem_nil, false_imp_iff, implies_true, true_and]
      constructor
      · rintro ⟨h1, h2⟩
        refine ⟨?_, h2⟩
        have : (r.any fun s => strEq s x) = false := by
          rw [List.any_eq_false]
          intro s hs'
          rw [strEq_comm, h1 s hs']; simp
        rw [this]; rfl
      · rintro ⟨h1, h2⟩
        refine ⟨fun s hs' => ?_, h2⟩
        rw [strEq_comm]
        cases h : strEq s x
        · rfl
        · have : (r.any fun s => strEq s x) = true := List.any_eq_true.2 ⟨s, hs', h⟩
          rw [this] at h1; cases h1
    rw [hp, ← i2]
    cases hr : (r.any fun s => strEq s x)
    · refine ⟨by simpa using i1, ?_⟩
      rw [Bool.eq_iff_iff]; simp
    · refine ⟨by simpa using (by omega : size (nm (off + 1) r) ≤ r.length + 1), ?_⟩
      simp only [if_true, List.length_cons, Bool.not_true, Bool.false_and, decide_eq_false_iff_not]
      omega
/-- The number of the first sort of a name. -/
def findN (k : ByteArray) (l : List ByteArray) : Option Nat := l.findIdx? fun s => strEq s k
theorem nm_at (l : List ByteArray) (hs : ∀ s, s ∈ l → s.size ≤ 1048576) (k : ByteArray) (z : DataW Unit) : ∀ off, (nm off l).atKey (.string k.data.toList) z = match findN k l with | some i => .lit (.int .i64 ((off + i : Nat) : Int)) | none => z := by
  induction l with
  | nil => intro off; rfl
  | cons x r ih =>
    intro off
    have ih := ih (fun s h => hs s (by simp [h])) (off + 1)
    unfold findN at *
    rw [List.findIdx?_cons]
    by_cases e : x.data.toList = k.data.toList
    · have : strEq x k = true := by unfold strEq; simpa using e
      rw [this, if_pos rfl, nm, e]
      rw [← e, atKey_put_same (nm_tidy r (fun s h => hs s (by simp [h])) _).isMap (name_key x (hs x (by simp)))]
      simp
    · have : strEq x k = false := by unfold strEq; simpa using e
      rw [this, if_neg (by simp), nm, atKey_put_other (fun h => e (by injection h with h; exact h.symm)), ih]
      cases r.findIdx? (fun s => strEq s k) with
      | none => rfl
      | some i =>
        simp only [Option.map_some]
        rw [show off + 1 + i = off + (i + 1) by omega]
theorem find_any (k : ByteArray) (l : List ByteArray) : (l.any fun s => strEq s k) = (findN k l).isSome := by
  unfold findN
  rw [List.findIdx?_isSome]

theorem byName_any (a : Option Addr) (c : Nat) (l : List ByteArray) (hl : l.length ≤ 1048576) (hs : ∀ s, s ∈ l → s.size ≤ 1048576) (w : World) (hrow : RowStr w a l) :
    Calls Try.prog 41 #[.slice a l.length c] w fun e w' => e = .returned (.map (some w.heap.size)) ∧ w'.ownsMap Try.prog 9 el3 w.heap.size l.length (nm 0 l) ∧ Below w.heap.size w w' := by
  have := callsIn_wide.1 (byName_in 8 (by omega) a c l hl hs w hrow)
  rw [nm_bk] at this
  exact this
end Go.Proofs.Ytiihdbchchnncaa
end
section
namespace Go.Proofs.Ytiihdbchchnncaa
open Go Go.RowKit

/-- Are two lists the same, thing by thing? -/
def eqL {α : Type} (q : α → α → Bool) : List α → List α → Bool
  | [], [] => true
  | x :: l, y :: r => q x y && eqL q l r
  | _, _ => false
theorem eqL_len {α : Type} {q : α → α → Bool} : ∀ {l r : List α}, l.length ≠ r.length → eqL q l r = false := by
  intro l
  induction l with
  | nil => intro r h; cases r with | nil => simp at h | cons y r => rfl
  | cons x l ih =>
    intro r h
    cases r with
    | nil => rfl
    | cons y r => rw [eqL, ih (by simpa using h), Bool.and_false]
theorem eqL_no {α : Type} {q : α → α → Bool} : ∀ {l r : List α} (i : Nat) (x y : α), l[i]? = some x → r[i]? = some y → q x y = false → eqL q l r = false := by
  intro l
  induction l with
  | nil => intro r i x y h; simp at h
  | cons x' l ih =>
    intro r i x y hx hy hq
    cases r with
    | nil => rfl
    | cons y' r =>
      cases i with
      | zero => simp at hx hy; subst hx hy; rw [eqL, hq, Bool.false_and]
      | succ i => rw [eqL, ih i x y (by simpa using hx) (by simpa using hy) hq, Bool.and_false]
theorem eqL_yes {α : Type} {q : α → α → Bool} : ∀ {l r : List α}, l.length = r.length → (∀ (i : Nat) (x y : α), l[i]? = some x → r[i]? = some y → q x y = true) → eqL q l r = true := by
  intro l
  induction l with
  | nil => intro r h _; cases r with | nil => rfl | cons y r => simp at h
  | cons x l ih =>
    intro r h hq
    cases r with
    | nil => simp at h
    | cons y r => rw [eqL, hq 0 x y rfl rfl, ih (by simpa using h) (fun i a b ha hb => hq (i + 1) a b (by simpa using ha) (by simpa using hb)), Bool.true_and]

theorem toList_data (s : ByteArray) : s.toList = s.data.toList := ByteArray.toList_eq s
set_option maxRecDepth 100000 in
set_option maxHeartbeats 4000000 in
theorem equalStr_any (a b : Option Addr) (c d : Nat) (l r : List ByteArray) (w : World) (hl : RowStr w a l) (hr : RowStr w b r) (h1 : l.length ≤ 1048576) (h2 : r.length ≤ 1048576) :
    Calls Try.prog 43 #[.slice a l.length c, .slice b r.length d] w fun e w' => e = .returned (.bool (eqL strEq l r)) ∧ Below w.heap.size w w' := by
  have HL := Lib.hid hl
  have HR := Lib.hid hr
  clear hl hr
  obtain ⟨n, hn⟩ : ∃ n, n = l.length := ⟨_, rfl⟩
  obtain ⟨m, hm⟩ : ∃ m, m = r.length := ⟨_, rfl⟩
  have HD : Hid (l.length ≠ r.length → eqL strEq l r = false) := Lib.hid eqL_len
  have HY : Hid (l.length = r.length → (∀ (i : Nat) (x y : ByteArray), l[i]? = some x → r[i]? = some y → strEq x y = true) → eqL strEq l r = true) := Lib.hid eqL_yes
  have HO : Hid (∀ (i : Nat) (x y : ByteArray), l[i]? = some x → r[i]? = some y → strEq x y = false → eqL strEq l r = false) := Lib.hid eqL_no
  obtain ⟨q, hq⟩ : ∃ q, q = eqL strEq l r := ⟨_, rfl⟩
  rw [← hn] at h1 HD HY ⊢
  rw [← hm] at h2 HD HY ⊢
  rw [← hq] at HD HY HO ⊢
  have HN := Lib.hid hn
  have HM := Lib.hid hm
  clear hn hm hq
  by_cases hnm : n = m
  · subst hnm
    have HY2 := Lib.hid (HY.out rfl)
    clear HD HY
    go_enter Try.func43, Try.ntmps43
    go_wp2
    go_loopw [13] (fun i wr => ∃ (k : Nat), i = .int .i64 k ∧ k ≤ n ∧ Hid (∀ (i : Nat) (x y : ByteArray), i < k → l[i]? = some x → r[i]? = some y → strEq x y = true) ∧ Hid (Below w.heap.size w wr))
      (fun i _ => n - (intOf i).toNat)
    case atStart => exact ⟨0, rfl, Nat.zero_le _, Lib.hid (fun j x y hj => by omega), Lib.hid (Below.refl _ _)⟩
    case round =>
      obtain ⟨k, rfl, hk, hS, hB⟩ := hrel
      by_cases hlt : k < n
      · obtain ⟨x, hx⟩ : ∃ x, l[k]? = some x := ⟨_, List.getElem?_eq_getElem (by rw [← HN.out]; exact hlt)⟩
        obtain ⟨y, hy⟩ : ∃ y, r[k]? = some y := ⟨_, List.getElem?_eq_getElem (by rw [← HM.out]; exact hlt)⟩
        obtain ⟨b1, o1, rfl, hb1, hc1, _⟩ := HL.out k x hx
        obtain ⟨b2, o2, rfl, hb2, hc2, _⟩ := HR.out k y hy
        have c1 := Str_at (hc1.below hB.out hb1)
        have c2 := Str_at (hc2.below hB.out hb2)
        have HX : Hid (strEq x y = false → q = false) := Lib.hid (HO.out k x y hx hy)
        have HZ : Hid (strEq x y = true → ∀ (i : Nat) (x y : ByteArray), i < k + 1 → l[i]? = some x → r[i]? = some y → strEq x y = true) := Lib.hid (fun h i x' y' hi hx' hy' => by
          by_cases e : i = k
          · subst e; rw [hx] at hx'; rw [hy] at hy'; cases hx'; cases hy'; exact h
          · exact hS.out i x' y' (by omega) hx' hy')
        have n1 : (k : Int) < (n : Int) := by omega
        have n0 : (0 : Int) ≤ (k : Int) := by omega
        simp only [Nat.mul_one] at c1 c2
        clear hx hy hc1 hc2 HO HL HR HY2 hS
        unfold strEq at HX HZ
        by_cases he : x.data.toList = y.data.toList
        · have g1 : (x.toList == y.toList) = true := by rw [toList_data, toList_data, he]; simp
          have HZ2 := Lib.hid (HZ.out (by simpa using he))
          clear HX HZ he
          go_wp2
          go_region
          go_wp2
          go_roundw
          case rel => exact ⟨k + 1, by go_num, by omega, HZ2, Lib.hid hB.out.drew⟩
          case measure => simp [intOf]; omega
        · have g1 : (x.toList == y.toList) = false := by rw [toList_data, toList_data]; simpa using he
          have HE := Lib.hid (HX.out (by simpa using he))
          clear HX HZ he
          go_wp2
          go_region
          go_wp2
          go_ret
          exact ⟨by rw [HE.out]; rfl, hB.out.drew⟩
      · obtain rfl : k = n := by omega
        have HE : Hid (q = true) := Lib.hid (HY2.out (fun i x y hx hy => hS.out i x y (by have := (List.getElem?_eq_some_iff.1 hx).1; have := HN.out; omega) hx hy))
        clear hS HY2
        go_wp2
        go_ret
        exact ⟨by rw [HE.out]; rfl, hB.out⟩
  · have HE : Hid (q = false) := Lib.hid (HD.out hnm)
    have n1 : ((n : Int) != (m : Int)) = true := by simp; omega
    clear HD HY HO HL HR
    go_enter Try.func43, Try.ntmps43
    go_wp2
    go_ret
    exact ⟨by rw [HE.out]; rfl, Below.refl _ _⟩
end Go.Proofs.Ytiihdbchchnncaa
end
section
namespace Go.Proofs.Ytiihdbchchnncaa
open Go Go.RowKit

set_option maxRecDepth 100000 in
set_option maxHeartbeats 4000000 in
theorem equalSym_any (a b : Option Addr) (c d : Nat) (l r : List SymM) (w : World) (hl : RowSym w a l) (hr : RowSym w b r) (h1 : l.length ≤ 1048576) (h2 : r.length ≤ 1048576) :
    Calls Try.prog 65 #[.slice a l.length c, .slice b r.length d] w fun e w' => e = .returned (.bool (eqL symEq l r)) ∧ Below w.heap.size w w' := by
  have HL := Lib.hid hl
  have HR := Lib.hid hr
  clear hl hr
  obtain ⟨n, hn⟩ : ∃ n, n = l.length := ⟨_, rfl⟩
  obtain ⟨m, hm⟩ : ∃ m, m = r.length := ⟨_, rfl⟩
  have HD : Hid (l.length ≠ r.length → eqL symEq l r = false) := Lib.hid eqL_len
  have HY : Hid (l.length = r.length → (∀ (i : Nat) (x y : SymM), l[i]? = some x → r[i]? = some y → symEq x y = true) → eqL symEq l r = true) := Lib.hid eqL_yes
  have HO : Hid (∀ (i : Nat) (x y : SymM), l[i]? = some x → r[i]? = some y → symEq x y = false → eqL symEq l r = false) := Lib.hid eqL_no
  obtain ⟨q, hq⟩ : ∃ q, q = eqL symEq l r := ⟨_, rfl⟩
  rw [← hn] at h1 HD HY ⊢
  rw [← hm] at h2 HD HY ⊢
  rw [← hq] at HD HY HO ⊢
  have HN := Lib.hid hn
  have HM := Lib.hid hm
  clear hn hm hq
  by_cases hnm : n = m
  · subst hnm
    have HY2 := Lib.hid (HY.out rfl)
    clear HD HY
    go_enter Try.func65, Try.ntmps65
    go_wp2
    go_loopw [13] (fun i wr => ∃ (k : Nat), i = .int .i64 k ∧ k ≤ n ∧ Hid (∀ (i : Nat) (x y : SymM), i < k → l[i]? = some x → r[i]? = some y → symEq x y = true) ∧ Hid (Below w.heap.size w wr))
      (fun i _ => n - (intOf i).toNat)
    case atStart => exact ⟨0, rfl, Nat.zero_le _, Lib.hid (fun j x y hj => by omega), Lib.hid (Below.refl _ _)⟩
    case round =>
      obtain ⟨k, rfl, hk, hS, hB⟩ := hrel
      by_cases hlt : k < n
      · obtain ⟨x, hx⟩ : ∃ x, l[k]? = some x := ⟨_, List.getElem?_eq_getElem (by rw [← HN.out]; exact hlt)⟩
        obtain ⟨y, hy⟩ : ∃ y, r[k]? = some y := ⟨_, List.getElem?_eq_getElem (by rw [← HM.out]; exact hlt)⟩
        obtain ⟨b1, o1, rfl, hb1, hc1, _⟩ := HL.out k x hx
        obtain ⟨b2, o2, rfl, hb2, hc2, _⟩ := HR.out k y hy
        obtain ⟨c10, c11, c12, c13, c14, c15⟩ := Sym_at (hc1.below hB.out hb1)
        obtain ⟨c20, c21, c22, c23, c24, c25⟩ := Sym_at (hc2.below hB.out hb2)
        have HX : Hid (symEq x y = false → q = false) := Lib.hid (HO.out k x y hx hy)
        have HZ : Hid (symEq x y = true → ∀ (i : Nat) (x y : SymM), i < k + 1 → l[i]? = some x → r[i]? = some y → symEq x y = true) := Lib.hid (fun h i x' y' hi hx' hy' => by
          by_cases e : i = k
          · subst e; rw [hx] at hx'; rw [hy] at hy'; cases hx'; cases hy'; exact h
          · exact hS.out i x' y' (by omega) hx' hy')
        have n1 : (k : Int) < (n : Int) := by omega
        have n0 : (0 : Int) ≤ (k : Int) := by omega
        clear hx hy hc1 hc2 HO HL HR HY2 hS
        cases he : symEq x y
        · have g1 := fun w' => eq_syms 9996 x y w'
          simp only [he] at g1
          unfold symV symC at g1
          have HE := Lib.hid (HX.out (he))
          clear HX HZ he
          go_wp2
          go_region
          go_wp2
          go_ret
          exact ⟨by rw [HE.out]; rfl, hB.out.drew⟩
        · have g1 := fun w' => eq_syms 9996 x y w'
          simp only [he] at g1
          unfold symV symC at g1
          have HZ2 := Lib.hid (HZ.out (he))
          clear HX HZ he
          go_wp2
          go_region
          go_wp2
          go_roundw
          case rel => exact ⟨k + 1, by go_num, by omega, HZ2, Lib.hid hB.out.drew⟩
          case measure => simp [intOf]; omega
      · obtain rfl : k = n := by omega
        have HE : Hid (q = true) := Lib.hid (HY2.out (fun i x y hx hy => hS.out i x y (by have := (List.getElem?_eq_some_iff.1 hx).1; have := HN.out; omega) hx hy))
        clear hS HY2
        go_wp2
        go_ret
        exact ⟨by rw [HE.out]; rfl, hB.out⟩
  · have HE : Hid (q = false) := Lib.hid (HD.out hnm)
    have n1 : ((n : Int) != (m : Int)) = true := by simp; omega
    clear HD HY HO HL HR
    go_enter Try.func65, Try.ntmps65
    go_wp2
    go_ret
    exact ⟨by rw [HE.out]; rfl, Below.refl _ _⟩
set_option maxRecDepth 100000 in
set_option maxHeartbeats 4000000 in
theorem equalFor_any (a b : Option Addr) (c d : Nat) (l r : List ForM) (w : World) (hl : RowFor w a l) (hr : RowFor w b r) (h1 : l.length ≤ 1048576) (h2 : r.length ≤ 1048576) :
    Calls Try.prog 46 #[.slice a l.length c, .slice b r.length d] w fun e w' => e = .returned (.bool (eqL forEq l r)) ∧ Below w.heap.size w w' := by
  have HL := Lib.hid hl
  have HR := Lib.hid hr
  clear hl hr
  obtain ⟨n, hn⟩ : ∃ n, n = l.length := ⟨_, rfl⟩
  obtain ⟨m, hm⟩ : ∃ m, m = r.length := ⟨_, rfl⟩
  have HD : Hid (l.length ≠ r.length → eqL forEq l r = false) := Lib.hid eqL_len
  have HY : Hid (l.length = r.length → (∀ (i : Nat) (x y : ForM), l[i]? = some x → r[i]? = some y → forEq x y = true) → eqL forEq l r = true) := Lib.hid eqL_yes
  have HO : Hid (∀ (i : Nat) (x y : ForM), l[i]? = some x → r[i]? = some y → forEq x y = false → eqL forEq l r = false) := Lib.hid eqL_no
  obtain ⟨q, hq⟩ : ∃ q, q = eqL forEq l r := ⟨_, rfl⟩
  rw [← hn] at h1 HD HY ⊢
  rw [← hm] at h2 HD HY ⊢
  rw [← hq] at HD HY HO ⊢
  have HN := Lib.hid hn
  have HM := Lib.hid hm
  clear hn hm hq
  by_cases hnm : n = m
  · subst hnm
    have HY2 := Lib.hid (HY.out rfl)
    clear HD HY
    go_enter Try.func46, Try.ntmps46
    go_wp2
    go_loopw [13] (fun i wr => ∃ (k : Nat), i = .int .i64 k ∧ k ≤ n ∧ Hid (∀ (i : Nat) (x y : ForM), i < k → l[i]? = some x → r[i]? = some y → forEq x y = true) ∧ Hid (Below w.heap.size w wr))
      (fun i _ => n - (intOf i).toNat)
    case atStart => exact ⟨0, rfl, Nat.zero_le _, Lib.hid (fun j x y hj => by omega), Lib.hid (Below.refl _ _)⟩
    case round =>
      obtain ⟨k, rfl, hk, hS, hB⟩ := hrel
      by_cases hlt : k < n
      · obtain ⟨x, hx⟩ : ∃ x, l[k]? = some x := ⟨_, List.getElem?_eq_getElem (by rw [← HN.out]; exact hlt)⟩
        obtain ⟨y, hy⟩ : ∃ y, r[k]? = some y := ⟨_, List.getElem?_eq_getElem (by rw [← HM.out]; exact hlt)⟩
        obtain ⟨b1, o1, rfl, hb1, hc1, _⟩ := HL.out k x hx
        obtain ⟨b2, o2, rfl, hb2, hc2, _⟩ := HR.out k y hy
        obtain ⟨c10, c11, c12⟩ := For_at (hc1.below hB.out hb1)
        obtain ⟨c20, c21, c22⟩ := For_at (hc2.below hB.out hb2)
        have HX : Hid (forEq x y = false → q = false) := Lib.hid (HO.out k x y hx hy)
        have HZ : Hid (forEq x y = true → ∀ (i : Nat) (x y : ForM), i < k + 1 → l[i]? = some x → r[i]? = some y → forEq x y = true) := Lib.hid (fun h i x' y' hi hx' hy' => by
          by_cases e : i = k
          · subst e; rw [hx] at hx'; rw [hy] at hy'; cases hx'; cases hy'; exact h
          · exact hS.out i x' y' (by omega) hx' hy')
        have n1 : (k : Int) < (n : Int) := by omega
        have n0 : (0 : Int) ≤ (k : Int) := by omega
        clear hx hy hc1 hc2 HO HL HR HY2 hS
        cases he : forEq x y
        · have g1 := fun w' => eq_fors 9996 x y w'
          have hee : (x.parent == y.parent && (x.at_ == y.at_ && x.child == y.child)) = false := he
          simp only [hee] at g1
          clear hee
          unfold forV forC at g1
          have HE := Lib.hid (HX.out (he))
          clear HX HZ he
          go_wp2
          go_region
          go_wp2
          go_ret
          exact ⟨by rw [HE.out]; rfl, hB.out.drew⟩
        · have g1 := fun w' => eq_fors 9996 x y w'
          have hee : (x.parent == y.parent && (x.at_ == y.at_ && x.child == y.child)) = true := he
          simp only [hee] at g1
          clear hee
          unfold forV forC at g1
          have HZ2 := Lib.hid (HZ.out (he))
          clear HX HZ he
          go_wp2
          go_region
          go_wp2
          go_roundw
          case rel => exact ⟨k + 1, by go_num, by omega, HZ2, Lib.hid hB.out.drew⟩
          case measure => simp [intOf]; omega
      · obtain rfl : k = n := by omega
        have HE : Hid (q = true) := Lib.hid (HY2.out (fun i x y hx hy => hS.out i x y (by have := (List.getElem?_eq_some_iff.1 hx).1; have := HN.out; omega) hx hy))
        clear hS HY2
        go_wp2
        go_ret
        exact ⟨by rw [HE.out]; rfl, hB.out⟩
  · have HE : Hid (q = false) := Lib.hid (HD.out hnm)
    have n1 : ((n : Int) != (m : Int)) = true := by simp; omega
    clear HD HY HO HL HR
    go_enter Try.func46, Try.ntmps46
    go_wp2
    go_ret
    exact ⟨by rw [HE.out]; rfl, Below.refl _ _⟩
set_option maxRecDepth 100000 in
set_option maxHeartbeats 4000000 in
theorem equalFol_any (a b : Option Addr) (c d : Nat) (l r : List FolM) (w : World) (hl : RowFol w a l) (hr : RowFol w b r) (h1 : l.length ≤ 1048576) (h2 : r.length ≤ 1048576) :
    Calls Try.prog 47 #[.slice a l.length c, .slice b r.length d] w fun e w' => e = .returned (.bool (eqL folEq l r)) ∧ Below w.heap.size w w' := by
  have HL := Lib.hid hl
  have HR := Lib.hid hr
  clear hl hr
  obtain ⟨n, hn⟩ : ∃ n, n = l.length := ⟨_, rfl⟩
  obtain ⟨m, hm⟩ : ∃ m, m = r.length := ⟨_, rfl⟩
  have HD : Hid (l.length ≠ r.length → eqL folEq l r = false) := Lib.hid eqL_len
  have HY : Hid (l.length = r.length → (∀ (i : Nat) (x y : FolM), l[i]? = some x → r[i]? = some y → folEq x y = true) → eqL folEq l r = true) := Lib.hid eqL_yes
  have HO : Hid (∀ (i : Nat) (x y : FolM), l[i]? = some x → r[i]? = some y → folEq x y = false → eqL folEq l r = false) := Lib.hid eqL_no
  obtain ⟨q, hq⟩ : ∃ q, q = eqL folEq l r := ⟨_, rfl⟩
  rw [← hn] at h1 HD HY ⊢
  rw [← hm] at h2 HD HY ⊢
  rw [← hq] at HD HY HO ⊢
  have HN := Lib.hid hn
  have HM := Lib.hid hm
  clear hn hm hq
  by_cases hnm : n = m
  · subst hnm
    have HY2 := Lib.hid (HY.out rfl)
    clear HD HY
    go_enter Try.func47, Try.ntmps47
    go_wp2
    go_loopw [13] (fun i wr => ∃ (k : Nat), i = .int .i64 k ∧ k ≤ n ∧ Hid (∀ (i : Nat) (x y : FolM), i < k → l[i]? = some x → r[i]? = some y → folEq x y = true) ∧ Hid (Below w.heap.size w wr))
      (fun i _ => n - (intOf i).toNat)
    case atStart => exact ⟨0, rfl, Nat.zero_le _, Lib.hid (fun j x y hj => by omega), Lib.hid (Below.refl _ _)⟩
    case round =>
      obtain ⟨k, rfl, hk, hS, hB⟩ := hrel
      by_cases hlt : k < n
      · obtain ⟨x, hx⟩ : ∃ x, l[k]? = some x := ⟨_, List.getElem?_eq_getElem (by rw [← HN.out]; exact hlt)⟩
        obtain ⟨y, hy⟩ : ∃ y, r[k]? = some y := ⟨_, List.getElem?_eq_getElem (by rw [← HM.out]; exact hlt)⟩
        obtain ⟨b1, o1, rfl, hb1, hc1, _⟩ := HL.out k x hx
        obtain ⟨b2, o2, rfl, hb2, hc2, _⟩ := HR.out k y hy
        obtain ⟨c10, c11, c12, c13, c14⟩ := Fol_at (hc1.below hB.out hb1)
        obtain ⟨c20, c21, c22, c23, c24⟩ := Fol_at (hc2.below hB.out hb2)
        have HX : Hid (folEq x y = false → q = false) := Lib.hid (HO.out k x y hx hy)
        have HZ : Hid (folEq x y = true → ∀ (i : Nat) (x y : FolM), i < k + 1 → l[i]? = some x → r[i]? = some y → folEq x y = true) := Lib.hid (fun h i x' y' hi hx' hy' => by
          by_cases e : i = k
          · subst e; rw [hx] at hx'; rw [hy] at hy'; cases hx'; cases hy'; exact h
          · exact hS.out i x' y' (by omega) hx' hy')
        have n1 : (k : Int) < (n : Int) := by omega
        have n0 : (0 : Int) ≤ (k : Int) := by omega
        clear hx hy hc1 hc2 HO HL HR HY2 hS
        cases he : folEq x y
        · have g1 := fun w' => eq_fols 9996 x y w'
          simp only [he] at g1
          unfold folV folC at g1
          have HE := Lib.hid (HX.out (he))
          clear HX HZ he
          go_wp2
          go_region
          go_wp2
          go_ret
          exact ⟨by rw [HE.out]; rfl, hB.out.drew⟩
        · have g1 := fun w' => eq_fols 9996 x y w'
          simp only [he] at g1
          unfold folV folC at g1
          have HZ2 := Lib.hid (HZ.out (he))
          clear HX HZ he
          go_wp2
          go_region
          go_wp2
          go_roundw
          case rel => exact ⟨k + 1, by go_num, by omega, HZ2, Lib.hid hB.out.drew⟩
          case measure => simp [intOf]; omega
      · obtain rfl : k = n := by omega
        have HE : Hid (q = true) := Lib.hid (HY2.out (fun i x y hx hy => hS.out i x y (by have := (List.getElem?_eq_some_iff.1 hx).1; have := HN.out; omega) hx hy))
        clear hS HY2
        go_wp2
        go_ret
        exact ⟨by rw [HE.out]; rfl, hB.out⟩
  · have HE : Hid (q = false) := Lib.hid (HD.out hnm)
    have n1 : ((n : Int) != (m : Int)) = true := by simp; omega
    clear HD HY HO HL HR
    go_enter Try.func47, Try.ntmps47
    go_wp2
    go_ret
    exact ⟨by rw [HE.out]; rfl, Below.refl _ _⟩
end Go.Proofs.Ytiihdbchchnncaa
end
section
namespace Go.Proofs.Ytiihdbchchnncaa
open Go Go.RowKit

/-- Are two productions the same? -/
def prodEq (p q : ProdM) : Bool := p.left == q.left && (eqL symEq p.right q.right && (p.cons.toList == q.cons.toList && (p.role == q.role && (p.prefer == q.prefer && (p.avoid == q.avoid && p.frm == q.frm)))))

theorem cells7g {W : World} {B t : Nat} {a b c d e f g : Value} (h : Blk W B t #[a, b, c, d, e, f, g]) : W.cell? ⟨B, 0, none⟩ = some a ∧ W.cell? ⟨B, 1, none⟩ = some b ∧ W.cell? ⟨B, 2, none⟩ = some c ∧ W.cell? ⟨B, 3, none⟩ = some d ∧ W.cell? ⟨B, 4, none⟩ = some e ∧ W.cell? ⟨B, 5, none⟩ = some f ∧ W.cell? ⟨B, 6, none⟩ = some g :=
  ⟨h.cell 0, h.cell 1, h.cell 2, h.cell 3, h.cell 4, h.cell 5, h.cell 6⟩
theorem keep2 {w3 : World} (w : World) (x y : Array Value) {t u : Nat} (hB : Below ((w.alloc (.cells x t)).alloc (.cells y u)).heap.size ((w.alloc (.cells x t)).alloc (.cells y u)) w3) :
    Blk w3 w.heap.size t x ∧ Blk w3 (w.heap.size + 1) u y := by
  have h0 : Blk ((w.alloc (.cells x t)).alloc (.cells y u)) w.heap.size t x := (Blk.new w t x).alloc _
  have h1 : Blk ((w.alloc (.cells x t)).alloc (.cells y u)) (w.heap.size + 1) u y := by
    have h := Blk.new (w.alloc (.cells x t)) u y
    rw [World.size_alloc] at h
    exact h
  exact ⟨h0.below hB h0.lt, h1.below hB h1.lt⟩

set_option maxRecDepth 100000 in
set_option maxHeartbeats 4000000 in
theorem sameProd_any (p q : ProdM) (w : World) (hp : ProdIn w p) (hq : ProdIn w q) (h1 : p.right.length ≤ 1048576) (h2 : q.right.length ≤ 1048576) :
    Calls Try.prog 45 #[prodV p, prodV q] w fun e w' => e = .returned (.bool (prodEq p q)) ∧ Below w.heap.size w w' := by
  have hB : Below w.heap.size w ((w.alloc (.cells (prodC p) 46)).alloc (.cells (prodC q) 46)) := ((Below.refl _ w).alloc (Nat.le_refl _) _).alloc (by simp) _
  have HB := Lib.hid hB
  have HC := Lib.hid (equalSym_any p.ra q.ra p.rc q.rc p.right q.right _ (RowOf.belowN hp hB) (RowOf.belowN hq hB) h1 h2)
  obtain ⟨r, hr⟩ : ∃ r, r = prodEq p q := ⟨_, rfl⟩
  rw [← hr]
  unfold prodEq at hr
  obtain ⟨t1, ht1⟩ : ∃ t, t = eqL symEq p.right q.right := ⟨_, rfl⟩
  rw [← ht1] at hr HC
  have HR := Lib.hid hr
  clear hr hp hq hB ht1
  unfold prodV prodC at *
  cases t0 : (p.left == q.left) with
  | false =>
    have HR2 : Hid (r = false) := Lib.hid (by rw [HR.out, t0]; simp)
    clear HR
    go_enter Try.func45, Try.ntmps45
    go_wp2
    go_ret
    exact ⟨by rw [HR2.out]; rfl, HB.out⟩
  | true =>
    cases t1 with
    | false =>
      have HR2 : Hid (r = false) := Lib.hid (by rw [HR.out, t0]; simp)
      clear HR
      go_enter Try.func45, Try.ntmps45
      go_wp2_with fail
      with_reducible refine HC.out.mono ?_
      rintro e w3 ⟨rfl, hB3⟩
      have HB3 := Lib.hid (HB.out.trans (hB3.mono HB.out.size))
      obtain ⟨g0, g1⟩ := keep2 w #[.int .i64 p.left, .slice p.ra p.right.length p.rc, .string p.cons, .int .i64 p.role, .bool p.prefer, .bool p.avoid, .int .i64 p.frm] #[.int .i64 q.left, .slice q.ra q.right.length q.rc, .string q.cons, .int .i64 q.role, .bool q.prefer, .bool q.avoid, .int .i64 q.frm] hB3
      obtain ⟨c00, c01, c02, c03, c04, c05, c06⟩ := cells7g g0
      obtain ⟨c10, c11, c12, c13, c14, c15, c16⟩ := cells7g g1
      have l0 := g0.lt
      have l1 := g1.lt
      clear hB3 g0 g1
      go_wp2
      go_ret
      exact ⟨by rw [HR2.out]; rfl, HB3.out⟩
    | true =>
      cases t2 : (p.cons.toList == q.cons.toList) with
      | false =>
        have HR2 : Hid (r = false) := Lib.hid (by rw [HR.out, t0, t2]; simp)
        clear HR
        go_enter Try.func45, Try.ntmps45
        go_wp2_with fail
        with_reducible refine HC.out.mono ?_
        rintro e w3 ⟨rfl, hB3⟩
        have HB3 := Lib.hid (HB.out.trans (hB3.mono HB.out.size))
        obtain ⟨g0, g1⟩ := keep2 w #[.int .i64 p.left, .slice p.ra p.right.length p.rc, .string p.cons, .int .i64 p.role, .bool p.prefer, .bool p.avoid, .int .i64 p.frm] #[.int .i64 q.left, .slice q.ra q.right.length q.rc, .string q.cons, .int .i64 q.role, .bool q.prefer, .bool q.avoid, .int .i64 q.frm] hB3
        obtain ⟨c00, c01, c02, c03, c04, c05, c06⟩ := cells7g g0
        obtain ⟨c10, c11, c12, c13, c14, c15, c16⟩ := cells7g g1
        have l0 := g0.lt
        have l1 := g1.lt
        clear hB3 g0 g1
        go_wp2
        go_ret
        exact ⟨by rw [HR2.out]; rfl, HB3.out⟩
      | true =>
        cases t3 : (p.role == q.role) with
        | false =>
          have HR2 : Hid (r = false) := Lib.hid (by rw [HR.out, t0, t2, t3]; simp)
          clear HR
          go_enter Try.func45, Try.ntmps45
          go_wp2_with fail
          with_reducible refine HC.out.mono ?_
          rintro e w3 ⟨rfl, hB3⟩
          have HB3 := Lib.hid (HB.out.trans (hB3.mono HB.out.size))
          obtain ⟨g0, g1⟩ := keep2 w #[.int .i64 p.left, .slice p.ra p.right.length p.rc, .string p.cons, .int .i64 p.role, .bool p.prefer, .bool p.avoid, .int .i64 p.frm] #[.int .i64 q.left, .slice q.ra q.right.length q.rc, .string q.cons, .int .i64 q.role, .bool q.prefer, .bool q.avoid, .int .i64 q.frm] hB3
          obtain ⟨c00, c01, c02, c03, c04, c05, c06⟩ := cells7g g0
          obtain ⟨c10, c11, c12, c13, c14, c15, c16⟩ := cells7g g1
          have l0 := g0.lt
          have l1 := g1.lt
          clear hB3 g0 g1
          go_wp2
          go_ret
          exact ⟨by rw [HR2.out]; rfl, HB3.out⟩
        | true =>
          cases t4 : (p.prefer == q.prefer) with
          | false =>
            have HR2 : Hid (r = false) := Lib.hid (by rw [HR.out, t0, t2, t3, t4]; simp)
            clear HR
            go_enter Try.func45, Try.ntmps45
            go_wp2_with fail
            with_reducible refine HC.out.mono ?_
            rintro e w3 ⟨rfl, hB3⟩
            have HB3 := Lib.hid (HB.out.trans (hB3.mono HB.out.size))
            obtain ⟨g0, g1⟩ := keep2 w #[.int .i64 p.left, .slice p.ra p.right.length p.rc, .string p.cons, .int .i64 p.role, .bool p.prefer, .bool p.avoid, .int .i64 p.frm] #[.int .i64 q.left, .slice q.ra q.right.length q.rc, .string q.cons, .int .i64 q.role, .bool q.prefer, .bool q.avoid, .int .i64 q.frm] hB3
            obtain ⟨c00, c01, c02, c03, c04, c05, c06⟩ := cells7g g0
            obtain ⟨c10, c11, c12, c13, c14, c15, c16⟩ := cells7g g1
            have l0 := g0.lt
            have l1 := g1.lt
            clear hB3 g0 g1
            go_wp2
            go_ret
            exact ⟨by rw [HR2.out]; rfl, HB3.out⟩
          | true =>
            cases t5 : (p.avoid == q.avoid) with
            | false =>
              have HR2 : Hid (r = false) := Lib.hid (by rw [HR.out, t0, t2, t3, t4, t5]; simp)
              clear HR
              go_enter Try.func45, Try.ntmps45
              go_wp2_with fail
              with_reducible refine HC.out.mono ?_
              rintro e w3 ⟨rfl, hB3⟩
              have HB3 := Lib.hid (HB.out.trans (hB3.mono HB.out.size))
              obtain ⟨g0, g1⟩ := keep2 w #[.int .i64 p.left, .slice p.ra p.right.length p.rc, .string p.cons, .int .i64 p.role, .bool p.prefer, .bool p.avoid, .int .i64 p.frm] #[.int .i64 q.left, .slice q.ra q.right.length q.rc, .string q.cons, .int .i64 q.role, .bool q.prefer, .bool q.avoid, .int .i64 q.frm] hB3
              obtain ⟨c00, c01, c02, c03, c04, c05, c06⟩ := cells7g g0
              obtain ⟨c10, c11, c12, c13, c14, c15, c16⟩ := cells7g g1
              have l0 := g0.lt
              have l1 := g1.lt
              clear hB3 g0 g1
              go_wp2
              go_ret
              exact ⟨by rw [HR2.out]; rfl, HB3.out⟩
            | true =>
              cases t6 : (p.frm == q.frm) with
              | false =>
                have HR2 : Hid (r = false) := Lib.hid (by rw [HR.out, t0, t2, t3, t4, t5, t6]; simp)
                clear HR
                go_enter Try.func45, Try.ntmps45
                go_wp2_with fail
                with_reducible refine HC.out.mono ?_
                rintro e w3 ⟨rfl, hB3⟩
                have HB3 := Lib.hid (HB.out.trans (hB3.mono HB.out.size))
                obtain ⟨g0, g1⟩ := keep2 w #[.int .i64 p.left, .slice p.ra p.right.length p.rc, .string p.cons, .int .i64 p.role, .bool p.prefer, .bool p.avoid, .int .i64 p.frm] #[.int .i64 q.left, .slice q.ra q.right.length q.rc, .string q.cons, .int .i64 q.role, .bool q.prefer, .bool q.avoid, .int .i64 q.frm] hB3
                obtain ⟨c00, c01, c02, c03, c04, c05, c06⟩ := cells7g g0
                obtain ⟨c10, c11, c12, c13, c14, c15, c16⟩ := cells7g g1
                have l0 := g0.lt
                have l1 := g1.lt
                clear hB3 g0 g1
                go_wp2
                go_ret
                exact ⟨by rw [HR2.out]; rfl, HB3.out⟩
              | true =>
                have HR2 : Hid (r = true) := Lib.hid (by rw [HR.out, t0, t2, t3, t4, t5, t6]; simp)
                clear HR
                go_enter Try.func45, Try.ntmps45
                go_wp2_with fail
                with_reducible refine HC.out.mono ?_
                rintro e w3 ⟨rfl, hB3⟩
                have HB3 := Lib.hid (HB.out.trans (hB3.mono HB.out.size))
                obtain ⟨g0, g1⟩ := keep2 w #[.int .i64 p.left, .slice p.ra p.right.length p.rc, .string p.cons, .int .i64 p.role, .bool p.prefer, .bool p.avoid, .int .i64 p.frm] #[.int .i64 q.left, .slice q.ra q.right.length q.rc, .string q.cons, .int .i64 q.role, .bool q.prefer, .bool q.avoid, .int .i64 q.frm] hB3
                obtain ⟨c00, c01, c02, c03, c04, c05, c06⟩ := cells7g g0
                obtain ⟨c10, c11, c12, c13, c14, c15, c16⟩ := cells7g g1
                have l0 := g0.lt
                have l1 := g1.lt
                clear hB3 g0 g1
                go_wp2
                go_ret
                exact ⟨by rw [HR2.out]; rfl, HB3.out⟩
end Go.Proofs.Ytiihdbchchnncaa
end
section
namespace Go.Proofs.Ytiihdbchchnncaa
open Go Go.RowKit

set_option maxRecDepth 100000 in
set_option maxHeartbeats 4000000 in
theorem equalProd_any (a b : Option Addr) (c d : Nat) (l r : List ProdM) (w : World) (hl : RowProd w a l) (hr : RowProd w b r) (h1 : l.length ≤ 1048576) (h2 : r.length ≤ 1048576) (h3 : ∀ x, x ∈ l → x.right.length ≤ 1048576) (h4 : ∀ x, x ∈ r → x.right.length ≤ 1048576) :
    Calls Try.prog 44 #[.slice a l.length c, .slice b r.length d, .func (.func 45) #[] #[]] w fun e w' => e = .returned (.bool (eqL prodEq l r)) ∧ Below w.heap.size w w' := by
  have HL := Lib.hid hl
  have HR := Lib.hid hr
  have H3 := Lib.hid h3
  have H4 := Lib.hid h4
  clear hl hr h3 h4
  obtain ⟨n, hn⟩ : ∃ n, n = l.length := ⟨_, rfl⟩
  obtain ⟨m, hm⟩ : ∃ m, m = r.length := ⟨_, rfl⟩
  have HD : Hid (l.length ≠ r.length → eqL prodEq l r = false) := Lib.hid eqL_len
  have HY : Hid (l.length = r.length → (∀ (i : Nat) (x y : ProdM), l[i]? = some x → r[i]? = some y → prodEq x y = true) → eqL prodEq l r = true) := Lib.hid eqL_yes
  have HO : Hid (∀ (i : Nat) (x y : ProdM), l[i]? = some x → r[i]? = some y → prodEq x y = false → eqL prodEq l r = false) := Lib.hid eqL_no
  obtain ⟨q, hq⟩ : ∃ q, q = eqL prodEq l r := ⟨_, rfl⟩
  rw [← hn] at h1 HD HY ⊢
  rw [← hm] at h2 HD HY ⊢
  rw [← hq] at HD HY HO ⊢
  have HN := Lib.hid hn
  have HM := Lib.hid hm
  clear hn hm hq
  by_cases hnm : n = m
  · subst hnm
    have HY2 := Lib.hid (HY.out rfl)
    clear HD HY
    go_enter Try.func44, Try.ntmps44
    go_wp2
    go_loopw [17] (fun i wr => ∃ (k : Nat), i = .int .i64 k ∧ k ≤ n ∧ Hid (∀ (i : Nat) (x y : ProdM), i < k → l[i]? = some x → r[i]? = some y → prodEq x y = true) ∧ Hid (Below w.heap.size w wr))
      (fun i _ => n - (intOf i).toNat)
    case atStart => exact ⟨0, rfl, Nat.zero_le _, Lib.hid (fun j x y hj => by omega), Lib.hid (Below.refl _ _)⟩
    case round =>
      obtain ⟨k, rfl, hk, hS, hB⟩ := hrel
      by_cases hlt : k < n
      · obtain ⟨x, hx⟩ : ∃ x, l[k]? = some x := ⟨_, List.getElem?_eq_getElem (by rw [← HN.out]; exact hlt)⟩
        obtain ⟨y, hy⟩ : ∃ y, r[k]? = some y := ⟨_, List.getElem?_eq_getElem (by rw [← HM.out]; exact hlt)⟩
        obtain ⟨b1, o1, rfl, hb1, hc1, hi1⟩ := HL.out k x hx
        obtain ⟨b2, o2, rfl, hb2, hc2, hi2⟩ := HR.out k y hy
        obtain ⟨c10, c11, c12, c13, c14, c15, c16⟩ := Prod_at (hc1.below hB.out hb1)
        obtain ⟨c20, c21, c22, c23, c24, c25, c26⟩ := Prod_at (hc2.below hB.out hb2)
        have hb1' := Nat.lt_of_lt_of_le hb1 hB.out.size
        have hb2' := Nat.lt_of_lt_of_le hb2 hB.out.size
        have hA : Below wr.heap.size wr ((wr.alloc (.cells (prodC x) 46)).alloc (.cells (prodC y) 46)) := ((Below.refl _ wr).alloc (Nat.le_refl _) _).alloc (by simp) _
        have hA2 : Below w.heap.size w ((wr.alloc (.cells (prodC x) 46)).alloc (.cells (prodC y) 46)) := hB.out.trans (hA.mono hB.out.size)
        have HA := Lib.hid hA2
        have HC := Lib.hid (sameProd_any x y _ ((hi1.below hB.out).below hA) ((hi2.below hB.out).below hA) (H3.out x (List.mem_of_getElem? hx)) (H4.out y (List.mem_of_getElem? hy)))
        clear hA hA2 hi1 hi2
        have HX : Hid (prodEq x y = false → q = false) := Lib.hid (HO.out k x y hx hy)
        have HZ : Hid (prodEq x y = true → ∀ (i : Nat) (x y : ProdM), i < k + 1 → l[i]? = some x → r[i]? = some y → prodEq x y = true) := Lib.hid (fun h i x' y' hi hx' hy' => by
          by_cases e : i = k
          · subst e; rw [hx] at hx'; rw [hy] at hy'; cases hx'; cases hy'; exact h
          · exact hS.out i x' y' (by omega) hx' hy')
        have n1 : (k : Int) < (n : Int) := by omega
        have n0 : (0 : Int) ≤ (k : Int) := by omega
        clear hx hy hc1 hc2 HO HL HR HY2 hS H3 H4
        unfold prodV prodC at *
        cases he : prodEq x y
        · rw [he] at HC
          have HE := Lib.hid (HX.out he)
          clear HX HZ he
          go_wp2_with fail
          with_reducible refine HC.out.mono ?_
          rintro e w3 ⟨rfl, hB3⟩
          have HB3 := Lib.hid (HA.out.trans (hB3.mono HA.out.size))
          clear hB3
          go_wp2
          go_ret
          exact ⟨by rw [HE.out]; rfl, HB3.out⟩
        · rw [he] at HC
          have HZ2 := Lib.hid (HZ.out he)
          clear HX HZ he
          go_wp2_with fail
          with_reducible refine HC.out.mono ?_
          rintro e w3 ⟨rfl, hB3⟩
          have HB3 := Lib.hid (HA.out.trans (hB3.mono HA.out.size))
          clear hB3
          go_wp2
          go_roundw
          case rel => exact ⟨k + 1, by go_num, by omega, HZ2, HB3⟩
          case measure => simp [intOf]; omega
      · obtain rfl : k = n := by omega
        have HE : Hid (q = true) := Lib.hid (HY2.out (fun i x y hx hy => hS.out i x y (by have := (List.getElem?_eq_some_iff.1 hx).1; have := HN.out; omega) hx hy))
        clear hS HY2
        go_wp2
        go_ret
        exact ⟨by rw [HE.out]; rfl, hB.out⟩
  · have HE : Hid (q = false) := Lib.hid (HD.out hnm)
    have n1 : ((n : Int) != (m : Int)) = true := by simp; omega
    clear HD HY HO HL HR H3 H4
    go_enter Try.func44, Try.ntmps44
    go_wp2
    go_ret
    exact ⟨by rw [HE.out]; rfl, Below.refl _ _⟩
end Go.Proofs.Ytiihdbchchnncaa
end
section
namespace Go.Proofs.Ytiihdbchchnncaa
open Go Go.RowKit

set_option maxRecDepth 100000 in
set_option maxHeartbeats 1000000 in
theorem notStr_any (x : ByteArray) (p : Bool) (K : Nat) (lb : Array Value) (eg : ∀ args w, (callFunc K args).run Try.prog w = .ok (.enter K args) w) (B : Nat) (w : World) (hb : w.cell? ⟨B, 0, none⟩ = some (.func (.func K) #[] lb))
    (H : ∀ W, Below w.heap.size w W → Calls Try.prog K (#[strV x] ++ lb) W fun e w' => e = .returned (.bool p) ∧ Below W.heap.size W w') :
    Calls Try.prog 93 #[strV x, .pointer (some ⟨B, 0, none⟩)] w fun e w' => e = .returned (.bool (!p)) ∧ Below w.heap.size w w' := by
  have hB := lt_of_cell hb
  have HH := Lib.hid H
  clear H
  unfold strV at *
  go_enter Try.func93, Try.ntmps93
  go_wp2_with (refine (HH.out _ ?_).mono ?_)
  · exact (Below.refl _ _)
  rintro e w' ⟨rfl, hB2⟩
  go_wp2
  go_ret
  exact ⟨rfl, (Below.refl _ _).trans (hB2.mono (by simp))⟩

set_option maxRecDepth 100000 in
set_option maxHeartbeats 4000000 in
theorem indexStr_any (a : Option Addr) (c : Nat) (l : List ByteArray) (q : ByteArray → Bool) (K : Nat) (lb : Array Value) (eg : ∀ args w, (callFunc K args).run Try.prog w = .ok (.enter K args) w) (w : World)
    (hl : RowStr w a l) (hn : l.length ≤ 1048576) (H : Says strV q l K lb w) :
    Calls Try.prog 103 #[.slice a l.length c, .func (.func K) #[] lb] w fun e w' => e = .returned (.int .i64 (firstI q l)) ∧ Below w.heap.size w w' := by
  have HL := Lib.hid hl
  have HH := Lib.hid H
  clear hl H
  obtain ⟨n, hln⟩ : ∃ n, n = l.length := ⟨_, rfl⟩
  rw [← hln] at hn ⊢
  have HN := Lib.hid hln
  clear hln
  go_enter Try.func103, Try.ntmps103
  go_wp2
  go_loopw [8] (fun i wr => ∃ (m : Nat), i = .int .i64 m ∧ m ≤ n ∧ Hid (∀ (j : Nat) y, j < m → l[j]? = some y → q y = false) ∧ Hid (Below w.heap.size w wr))
    (fun i _ => n - (intOf i).toNat)
  case atStart => exact ⟨0, rfl, Nat.zero_le _, Lib.hid (fun j y hj => by omega), Below.refl _ _⟩
  case round =>
    obtain ⟨m, rfl, hm, hS, hB⟩ := hrel
    by_cases hlt : m < n
    · have HX : Hid (∃ x, l[m]? = some x) := Lib.hid ⟨_, List.getElem?_eq_getElem (by rw [← HN.out]; exact hlt)⟩
      obtain ⟨x, hx⟩ := HX.out
      have HX := Lib.hid hx
      clear hx
      obtain ⟨b, off, rfl, hbw, hc, _⟩ := HL.out m x HX.out
      have hc := hc.below hB.out hbw
      have hbr := Nat.lt_of_lt_of_le hbw hB.out.size
      have c0 := Str_at hc
      rw [Nat.mul_one] at c0
      clear hc
      have HC := Lib.hid (HH.out x (List.mem_of_getElem? HX.out) wr hB.out)
      have HQ : Hid (∀ r, q x = r → r = false → ∀ (j : Nat) y, j < m + 1 → l[j]? = some y → q y = false) := Lib.hid (fun r hr hf j y hj hy => by
        by_cases e : j = m
        · subst e
          rw [HX.out] at hy
          cases hy
          rw [hr, hf]
        · exact hS.out j y (by omega) hy)
      have HT : Hid (q x = true → firstI q l = m) := Lib.hid (fun h => firstI_hit q l m x HX.out h hS.out)
      generalize q x = r at HC HQ HT
      clear HX hS HH HL
      unfold strV at *
      have n1 : (m : Int) < (n : Int) := by omega
      cases r with
      | true =>
        have HT2 := Lib.hid (HT.out rfl)
        clear HQ HT
        go_wp2_with fail
        refine HC.out.mono ?_
        rintro e w3 ⟨rfl, hB3⟩
        have HB3 := Lib.hid (hB.out.trans (hB3.mono hB.out.size))
        clear hB3
        go_wp2
        go_ret
        exact ⟨by rw [HT2.out]; rfl, HB3.out⟩
      | false =>
        have HQ2 := Lib.hid (HQ.out false rfl rfl)
        clear HT HQ
        go_wp2_with fail
        refine HC.out.mono ?_
        rintro e w3 ⟨rfl, hB3⟩
        have HB3 := Lib.hid (hB.out.trans (hB3.mono hB.out.size))
        clear hB3
        go_wp2
        go_roundw
        case rel => exact ⟨m + 1, by go_num, by omega, HQ2, HB3⟩
        case measure => simp [intOf]; omega
    · obtain rfl : m = n := by omega
      have HT := Lib.hid (firstI_none q l (fun j y hy => hS.out j y (by have := (List.getElem?_eq_some_iff.1 hy).1; have := HN.out; omega) hy))
      clear hS
      go_wp2
      go_ret
      exact ⟨by rw [HT.out]; rfl, hB.out⟩

set_option maxRecDepth 100000 in
set_option maxHeartbeats 1000000 in
theorem containsStr_any (a : Option Addr) (c : Nat) (l : List ByteArray) (q : ByteArray → Bool) (K : Nat) (lb : Array Value) (eg : ∀ args w, (callFunc K args).run Try.prog w = .ok (.enter K args) w) (w : World)
    (hl : RowStr w a l) (hn : l.length ≤ 1048576) (H : Says strV q l K lb w) :
    Calls Try.prog 92 #[.slice a l.length c, .func (.func K) #[] lb] w fun e w' => e = .returned (.bool (l.any q)) ∧ Below w.heap.size w w' := by
  have HC := Lib.hid (indexStr_any a c l q K lb eg w hl hn H)
  have HI := firstI_any q l
  obtain ⟨i, hi⟩ : ∃ i, i = firstI q l := ⟨_, rfl⟩
  rw [← hi] at HC HI
  clear hi hl H
  generalize l.any q = r at HI ⊢
  generalize l.length = n at *
  go_enter Try.func92, Try.ntmps92
  go_wp2_with fail
  refine HC.out.mono ?_
  rintro e w3 ⟨rfl, hB3⟩
  go_wp2
  go_ret
  exact ⟨rfl, hB3⟩

set_option maxRecDepth 100000 in
set_option maxHeartbeats 1000000 in
theorem allStr_any (a : Option Addr) (c : Nat) (l : List ByteArray) (p : ByteArray → Bool) (K : Nat) (lb : Array Value) (eg : ∀ args w, (callFunc K args).run Try.prog w = .ok (.enter K args) w) (w : World)
    (hl : RowStr w a l) (hn : l.length ≤ 1048576) (H : Says strV p l K lb w) :
    Calls Try.prog 76 #[.slice a l.length c, .func (.func K) #[] lb] w fun e w' => e = .returned (.bool (l.all p)) ∧ Below w.heap.size w w' := by
  have hB1 : Below w.heap.size w (w.alloc (.cells #[.func (.func K) #[] lb] 121)) := (Below.refl _ _).alloc (Nat.le_refl _) _
  have HC := Lib.hid (containsStr_any a c l (fun x => !p x) 93 #[.pointer (some ⟨w.heap.size, 0, none⟩)] (fun _ _ => by kernel_rfl) (w.alloc (.cells #[.func (.func K) #[] lb] 121)) (RowOf.belowN hl hB1) hn (fun x hx W hW =>
    notStr_any x (p x) K lb eg _ W (by have hb := Blk.new w 121 #[.func (.func K) #[] lb]; exact (hb.below hW hb.lt).cell 0) (fun V hV => H x hx V (hB1.trans ((hW.trans (hV.mono hW.size)).mono (by simp))))))
  have HA := any_not p l
  have HB := Lib.hid hB1
  clear hl H hB1
  generalize l.any (fun x => !p x) = r at HC HA
  rw [← HA]
  clear HA
  generalize l.length = n at *
  go_enter Try.func76, Try.ntmps76
  go_wp2_with fail
  refine HC.out.mono ?_
  rintro e w3 ⟨rfl, hB3⟩
  go_wp2
  go_ret
  exact ⟨rfl, HB.out.trans (hB3.mono HB.out.size)⟩
end Go.Proofs.Ytiihdbchchnncaa
end
section
namespace Go.Proofs.Ytiihdbchchnncaa
open Go Go.RowKit

/-- May something be forbidden? -/
def forbidB (g : GramM) (f : ForM) : Bool := numB f.parent g.prods.length && (numB f.child g.prods.length && (match g.prods[f.parent.toNat]?, g.prods[f.child.toNat]? with | some p, some c => standB p f.at_ c | _, _ => false))

theorem numB_nat {n : Int} {m : Nat} (h : numB n m = true) : ∃ k : Nat, n = k ∧ k < m := by
  unfold numB at h
  simp at h
  exact ⟨n.toNat, by omega, by omega⟩

theorem Blk.for {w : World} {B : Nat} {f : ForM} (h : Blk w B 78 (forC f)) : w.cell? ⟨B, 0, none⟩ = some (.int .i64 f.parent) ∧ w.cell? ⟨B, 1, none⟩ = some (.int .i64 f.at_) ∧ w.cell? ⟨B, 2, none⟩ = some (.int .i64 f.child) := ⟨h.cell 0, h.cell 1, h.cell 2⟩

set_option maxRecDepth 100000 in
set_option maxHeartbeats 1000000 in
/-- forbidsMayBe's closure. -/
theorem f83_any (f : ForM) (g : GramM) (B : Nat) (w : World) (hg : GIn w g) (hf : Fit g) (hF : FitF f) (hb : Blk w B 27 (gramC g)) :
    Calls Try.prog 83 #[forV f, .pointer (some ⟨B, 0, none⟩)] w fun e w' => e = .returned (.bool (forbidB g f)) ∧ Below w.heap.size w w' := by
  have HB : Hid (Below w.heap.size w (w.alloc (.cells (forC f) 78))) := Lib.hid ((Below.refl _ _).alloc (Nat.le_refl _) _)
  have hlt := hb.lt
  obtain ⟨c0, c1, _, _, _⟩ := hb.gram
  have HG := Lib.hid hg
  have HF := Lib.hid hf
  have HFF := Lib.hid hF
  have HR : Hid (forbidB g f = (numB f.parent g.prods.length && (numB f.child g.prods.length && (match g.prods[f.parent.toNat]?, g.prods[f.child.toNat]? with | some p, some c => standB p f.at_ c | _, _ => false)))) := Lib.hid rfl
  have HN1 := fun w' => Lib.hid (num_any f.parent g.prods.length w')
  have HN2 := fun w' => Lib.hid (num_any f.child g.prods.length w')
  have HB1 := Lib.hid (Blk.new w 78 (forC f))
  clear hg hf hF hb
  generalize forbidB g f = q at *
  obtain ⟨fp, fa, fc⟩ := f
  unfold forV forC at *
  dsimp only at *
  cases h1 : numB fp g.prods.length with
  | false =>
    have HR2 : Hid (q = false) := Lib.hid (by rw [HR.out, h1]; rfl)
    rw [h1] at HN1
    clear HR h1 HN2 HB1
    go_enter Try.func83, Try.ntmps83
    go_wp2_with (go_at_call 42; refine (HN1 _).out.mono ?_; rintro e w3 ⟨rfl, rfl⟩)
    go_ret
    exact ⟨by rw [HR2.out]; try rfl, HB.out⟩
  | true =>
    cases h2 : numB fc g.prods.length with
    | false =>
      have HR2 : Hid (q = false) := Lib.hid (by rw [HR.out, h1, h2]; rfl)
      rw [h1] at HN1
      rw [h2] at HN2
      clear HR h1 h2 HB1
      go_enter Try.func83, Try.ntmps83
      go_wp2_with (first | (go_at_call_of 42 (fp); (with_reducible refine (HN1 _).out.mono ?_); rintro e w3 ⟨rfl, rfl⟩) | (go_at_call_of 42 (fc); (with_reducible refine (HN2 _).out.mono ?_); rintro e w3 ⟨rfl, rfl⟩))
      go_ret
      exact ⟨by rw [HR2.out]; try rfl, HB.out⟩
    | true =>
      obtain ⟨i, rfl, hi⟩ := numB_nat h1
      obtain ⟨j, rfl, hj⟩ := numB_nat h2
      obtain ⟨p, hp⟩ : ∃ p, g.prods[i]? = some p := ⟨_, List.getElem?_eq_getElem hi⟩
      obtain ⟨c, hc⟩ : ∃ c, g.prods[j]? = some c := ⟨_, List.getElem?_eq_getElem hj⟩
      have HR2 : Hid (q = standB p fa c) := Lib.hid (by rw [HR.out, h1, h2, Int.toNat_natCast, Int.toNat_natCast, hp, hc]; rfl)
      rw [h1] at HN1
      rw [h2] at HN2
      obtain ⟨b, off, hpa, hbw, hcp, hpi⟩ := HG.out.prods i p hp
      obtain ⟨b', off', hpa', hbw', hcc, _⟩ := HG.out.prods j c hc
      rw [hpa] at hpa' c1
      cases hpa'
      have hcp := hcp.below HB.out hbw
      have hcc := hcc.below HB.out hbw
      obtain ⟨p0, p1, p2, p3, p4, p5, p6⟩ := Prod_at hcp
      obtain ⟨d0, d1, d2, d3, d4, d5, d6⟩ := Prod_at hcc
      have HC := fun W (hW : Below w.heap.size w W) => standMay_any p c fa W (hpi.below hW) (HF.out.right p (List.mem_of_getElem? hp)) HFF.out.at_.1 HFF.out.at_.2
      have HC2 := fun w' (hW : Below w.heap.size w w') => Lib.hid (HC w' hW)
      have HC3 := Lib.hid HC2
      have hbw2 : b < (w.alloc (.cells #[.int .i64 i, .int .i64 fa, .int .i64 j] 78)).heap.size := by simp; omega
      have hi2 : (i : Int) < (g.prods.length : Int) := by omega
      have hj2 : (j : Int) < (g.prods.length : Int) := by omega
      obtain ⟨e0, e1, e2⟩ := Blk.for (f := ⟨i, fa, j⟩) HB1.out
      dsimp only at e0 e1 e2
      clear HR h1 h2 hcp hcc hpi HC HC2 hp hc HG HF HFF hi hj hpa
      generalize standB p fa c = r at *
      generalize g.prods.length = n at *
      unfold prodV prodC at *
      go_enter Try.func83, Try.ntmps83
      go_wp2_with (first | (go_at_call_of 42 (i); (with_reducible refine (HN1 _).out.mono ?_); rintro e w3 ⟨rfl, rfl⟩) | (go_at_call_of 42 (j); (with_reducible refine (HN2 _).out.mono ?_); rintro e w3 ⟨rfl, rfl⟩))
      refine wp_region_still_tail 14 (by kernel_rfl) (by kernel_rfl) ?_
      show wpStill _ _ (World.drew (w.alloc (.cells #[.int .i64 i, .int .i64 fa, .int .i64 j] 78))) _ _ _
      have HBd := Lib.hid HB.out.drew
      have hlB : B < (w.alloc (.cells #[.int .i64 i, .int .i64 fa, .int .i64 j] 78)).heap.size := by simp; omega
      obtain ⟨W, hW⟩ : ∃ W, W = World.drew (w.alloc (.cells #[.int .i64 i, .int .i64 fa, .int .i64 j] 78)) := ⟨_, rfl⟩
      have kW : ∀ a, W.cell? a = (w.alloc (.cells #[.int .i64 i, .int .i64 fa, .int .i64 j] 78)).cell? a := fun a => by rw [hW]; rfl
      rw [← hW] at HBd ⊢
      simp only [← kW] at p0 p1 p2 p3 p4 p5 p6 d0 d1 d2 d3 d4 d5 d6 e0 e1 e2
      have c1' := (HBd.out.cell (p := ⟨B, 1, none⟩) hlt).trans c1
      have hs : W.heap.size = w.heap.size + 1 := by rw [hW]; simp
      have hbw3 : b < W.heap.size := by omega
      have hlB : B < W.heap.size := by omega
      have HW := Lib.hid hW
      clear kW hW hbw2 c1 c0 hs
      simp only [List.take_succ_cons, List.take_zero, List.drop_succ_cons, List.drop_zero]
      repeat still_step
      refine wpStill_nil ?_
      show wpList _ _ _ _ _ (World.drew (w.alloc (.cells #[.int .i64 i, .int .i64 fa, .int .i64 j] 78)))
      rw [← HW.out]
      clear HW
      go_wp2_with fail
      with_reducible refine (HC3.out _ HBd.out).out.mono ?_
      rintro e w3 ⟨rfl, hB3⟩
      go_wp2
      go_ret
      exact ⟨by rw [HR2.out]; try rfl, HBd.out.trans (hB3.mono HBd.out.size)⟩
end Go.Proofs.Ytiihdbchchnncaa
end
section
namespace Go.Proofs.Ytiihdbchchnncaa
open Go Go.RowKit

/-- The cells of a list of things. -/
def cellsL {α : Type} (cs : α → Array Value) (l : List α) : List Value := l.flatMap fun x => (cs x).toList
theorem cellsL_snoc {α : Type} (cs : α → Array Value) (l : List α) (x : α) : cellsL cs (l ++ [x]) = cellsL cs l ++ (cs x).toList := by simp [cellsL]
theorem cellsL_length {α : Type} {cs : α → Array Value} {k : Nat} (hk : ∀ x, (cs x).size = k) (l : List α) : (cellsL cs l).length = l.length * k := by
  induction l with
  | nil => simp [cellsL]
  | cons x r ih =>
    have e : cellsL cs (x :: r) = (cs x).toList ++ cellsL cs r := by simp [cellsL]
    rw [e, List.length_append, ih, Array.length_toList, hk, List.length_cons, Nat.succ_mul]; omega
theorem cellsL_at {α : Type} {cs : α → Array Value} {k : Nat} (hk : ∀ x, (cs x).size = k) : ∀ (l : List α) (i : Nat) (x : α), l[i]? = some x → ∀ j, j < k → (cellsL cs l)[i * k + j]? = (cs x)[j]? := by
  intro l
  induction l with
  | nil => intro i x hx; simp at hx
  | cons r rs ih =>
    intro i x hx j hj
    have hc : cellsL cs (r :: rs) = (cs r).toList ++ cellsL cs rs := by simp [cellsL]
    have hr : (cs r).toList.length = k := by rw [Array.length_toList, hk]
    rw [hc]
    cases i with
    | zero =>
      simp at hx
      subst hx
      rw [Nat.zero_mul, Nat.zero_add, List.getElem?_append_left (by omega), Array.getElem?_toList]
    | succ i =>
      have h := ih i x (by simpa using hx) j hj
      rw [List.getElem?_append_right (by rw [hr, Nat.succ_mul]; omega), ← h, hr]
      congr 1
      rw [Nat.succ_mul]; omega

/-- A slice that owns its row lies as such. -/
theorem own_row {α : Type} {cs : α → Array Value} {k : Nat} {G : World → α → Prop} (hk : ∀ x, (cs x).size = k) {w : World} {n₀ e : Nat} {v : Value} {l : List α} (h : w.ownsRow n₀ e k v l.length (cellsL cs l))
    (hG : ∀ x, x ∈ l → G w x) : ∃ a cap, v = .slice a l.length cap ∧ RowOf k cs G w a l := by
  rcases h.2 with ⟨rfl, h0⟩ | ⟨g, cap, cur, rfl, _, hg, _⟩
  · have : l = [] := List.length_eq_zero_iff.1 h0
    subst this
    exact ⟨none, 0, rfl, RowOf.nil _⟩
  · refine ⟨_, cap, rfl, fun i x hx => ⟨g, 0, rfl, (Array.getElem?_eq_some_iff.1 hg).1, fun j u hj => ?_, hG x (List.mem_of_getElem? hx)⟩⟩
    have hjk : j < k := by
      have := (Array.getElem?_eq_some_iff.1 hj).1
      rw [hk] at this; exact this
    have hil : i < l.length := (List.getElem?_eq_some_iff.1 hx).1
    have hlt : i * k + j < l.length * k := by
      have : (i + 1) * k ≤ l.length * k := Nat.mul_le_mul_right k hil
      rw [Nat.succ_mul] at this; omega
    rw [Nat.zero_add]
    exact (h.cellAt (i * k + j) hlt).trans ((cellsL_at hk l i x hx j hjk).trans hj)

theorem add_off (b off j : Nat) : (⟨b, off, none⟩ : Addr).add j = ⟨b, off + j, none⟩ := by
  unfold Addr.add
  split
  · next h => rw [h]; rfl
  · rfl
/-- The cells of a new block. -/
theorem cells_new (w : World) (cs : Array Value) (t : TypeId) : ∀ j v, cs.toList[j]? = some v → (w.alloc (.cells cs t)).cell? ((⟨w.heap.size, 0, none⟩ : Addr).add j) = some v := by
  intro j v hj
  rw [add_off, Nat.zero_add, (Blk.new w t cs).cell j]
  simpa using hj

theorem own_below {w w' : World} {base : Nat} {e : TypeId} {size : Nat} {v : Value} {n : Nat} {xs : List Value} {N : Nat} (h : w.ownsRow base e size v n xs) (hB : Below N w w') (hN : w.heap.size ≤ N) : w'.ownsRow base e size v n xs := by
  refine ⟨h.1, ?_⟩
  rcases h.2 with h | ⟨g, cap, cur, h1, h2, h3, h4⟩
  · exact .inl h
  · exact .inr ⟨g, cap, cur, h1, h2, (hB.block g (Nat.lt_of_lt_of_le (Array.getElem?_eq_some_iff.1 h3).1 hN)).trans h3, h4⟩
theorem own_mono {w : World} {b b' : Nat} {e : TypeId} {size : Nat} {v : Value} {n : Nat} {xs : List Value} (h : w.ownsRow b e size v n xs) (hb : b' ≤ b) : w.ownsRow b' e size v n xs := by
  refine ⟨h.1, ?_⟩
  rcases h.2 with h1 | ⟨g, cap, cur, h1, h2, h3⟩
  · exact .inl h1
  · exact .inr ⟨g, cap, cur, h1, Nat.le_trans hb h2, h3⟩
/-- What an append to a row of the call's own leaves of the rest. -/
theorem own_fin {e size : Nat} {w w1 w' : World} {n₀ : Nat} {v : Value} {n : Nat} {xs : List Value} (hown : w1.ownsRow n₀ e size v n xs) (hB : Below n₀ w w1) (hn : n₀ ≤ w.heap.size) (hg : w1.grownBy w' v.ownBlock) : Below n₀ w w' :=
  hB.grown hg (Nat.le_trans hn hB.size) fun j ej => by
    rcases hown.2 with ⟨rfl, _⟩ | ⟨g, cap, cur, rfl, hb, _⟩
    · cases ej
    · cases ej; exact hb
end Go.Proofs.Ytiihdbchchnncaa
end
