import Derived.Test.YtdodkbpagbblmaaDoorA
namespace Go.Proofs.YtdodkbpagbblmaaDoor
open Go Go.RowKit

/-- A block of cells known whole, none frozen. -/
def Blk (W : World) (B : Nat) (t : TypeId) (cs : Array Value) : Prop := W.heap[B]? = some (.cells cs t (0, 0))

theorem Blk.lt {W : World} {B t : Nat} {cs : Array Value} (h : Blk W B t cs) : B < W.heap.size := (Array.getElem?_eq_some_iff.1 h).1
theorem Blk.cell {W : World} {B t : Nat} {cs : Array Value} (h : Blk W B t cs) (i : Nat) : W.cell? ⟨B, i, none⟩ = cs[i]? := by
  unfold World.cell?
  simp only [show W.heap[B]? = _ from h]
  rfl
theorem Blk.frozen {W : World} {B t : Nat} {cs : Array Value} (h : Blk W B t cs) (i : Nat) : W.frozen? ⟨B, i, none⟩ = false := by
  unfold World.frozen?
  simp only [show W.heap[B]? = _ from h]
  simp
theorem Blk.new (W : World) (t : TypeId) (cs : Array Value) : Blk (W.alloc (.cells cs t)) W.heap.size t cs := World.alloc_heap_new W _
theorem Blk.kept {W W' : World} {row : Option Nat} {B t : Nat} {cs : Array Value} (h : Blk W B t cs) (hg : W.grownBy W' row) (hne : some B ≠ row) : Blk W' B t cs := (hg.block B h.lt hne).trans h
theorem Blk.alloc {W : World} {B t : Nat} {cs : Array Value} (h : Blk W B t cs) (o : Obj) : Blk (W.alloc o) B t cs := h.kept (World.grownBy_alloc W o none) (by simp)
theorem Blk.drew {W : World} {B t : Nat} {cs : Array Value} (h : Blk W B t cs) : Blk W.drew B t cs := h
theorem Blk.below {W W' : World} {n B t : Nat} {cs : Array Value} (h : Blk W B t cs) (hb : Below n W W') (hn : B < n) : Blk W' B t cs := (hb.block B hn).trans h
theorem Blk.other {W : World} {B t : Nat} {cs : Array Value} (h : Blk W B t cs) {a : Addr} (hne : B ≠ a.block) (u : Value) : Blk (W.setCell a u) B t cs := (Below.heap_setCell W a u B hne).trans h
theorem Blk.set {W : World} {B t : Nat} {cs : Array Value} (h : Blk W B t cs) (i : Nat) (u : Value) : Blk (W.setCell ⟨B, i, none⟩ u) B t (cs.setIfInBounds i u) := by
  obtain ⟨hlt, hk⟩ := Array.getElem?_eq_some_iff.1 h
  show (W.heap.modify B _)[B]? = _
  rw [Array.getElem?_eq_getElem (by rw [Array.size_modify]; exact hlt), Array.getElem_modify_self, hk]
  rfl

theorem Blk.set4 {W : World} {B t : Nat} {a b c d : Value} (h : Blk W B t #[a, b, c, d]) (a' b' c' d' : Value) :
    Blk ((((W.setCell ⟨B, 0, none⟩ a').setCell ⟨B, 1, none⟩ b').setCell ⟨B, 2, none⟩ c').setCell ⟨B, 3, none⟩ d') B t #[a', b', c', d'] := by
  simpa using (((h.set 0 a').set 1 b').set 2 c').set 3 d'
theorem below_set4 {n B : Nat} {w W : World} (h : Below n w W) (hn : n ≤ B) (a' b' c' d' : Value) :
    Below n w ((((W.setCell ⟨B, 0, none⟩ a').setCell ⟨B, 1, none⟩ b').setCell ⟨B, 2, none⟩ c').setCell ⟨B, 3, none⟩ d') :=
  (((h.setCell (p := ⟨B, 0, none⟩) hn _).setCell (p := ⟨B, 1, none⟩) hn _).setCell (p := ⟨B, 2, none⟩) hn _).setCell (p := ⟨B, 3, none⟩) hn _

theorem below_drew_trans {w W w' : World} (h : Below w.heap.size w W) (hB : Below W.drew.heap.size W.drew w') : Below w.heap.size w w' :=
  h.drew.trans (Below.mono hB h.size)

theorem ix0 (a b c d : Int) (w : World) : (Instr.index 36 (.agg #[.int .u64 a, .int .u64 b, .int .u64 c, .int .u64 d]) (.int .i64 0)).run Tryd.prog w = .ok (.int .u64 a) w := by kernel_rfl
theorem ix1 (a b c d : Int) (w : World) : (Instr.index 36 (.agg #[.int .u64 a, .int .u64 b, .int .u64 c, .int .u64 d]) (.int .i64 1)).run Tryd.prog w = .ok (.int .u64 b) w := by kernel_rfl
theorem ix2 (a b c d : Int) (w : World) : (Instr.index 36 (.agg #[.int .u64 a, .int .u64 b, .int .u64 c, .int .u64 d]) (.int .i64 2)).run Tryd.prog w = .ok (.int .u64 c) w := by kernel_rfl
theorem ix3 (a b c d : Int) (w : World) : (Instr.index 36 (.agg #[.int .u64 a, .int .u64 b, .int .u64 c, .int .u64 d]) (.int .i64 3)).run Tryd.prog w = .ok (.int .u64 d) w := by kernel_rfl

/-- The words of a set while a going over turns them into another's: behind k words. -/
def mixed (s t : BS) (k : Nat) (a b c d : Int) : Prop :=
  k = 0 ∧ a = wdI s 0 ∧ b = wdI s 1 ∧ c = wdI s 2 ∧ d = wdI s 3 ∨ k = 1 ∧ a = wdI t 0 ∧ b = wdI s 1 ∧ c = wdI s 2 ∧ d = wdI s 3 ∨ k = 2 ∧ a = wdI t 0 ∧ b = wdI t 1 ∧ c = wdI s 2 ∧ d = wdI s 3 ∨
    k = 3 ∧ a = wdI t 0 ∧ b = wdI t 1 ∧ c = wdI t 2 ∧ d = wdI s 3 ∨ k = 4 ∧ a = wdI t 0 ∧ b = wdI t 1 ∧ c = wdI t 2 ∧ d = wdI t 3

set_option maxRecDepth 100000 in
set_option maxHeartbeats 2000000 in
theorem not_any (s : BS) (w : World) : Calls Tryd.prog 47 #[vset s] w fun e w' => e = .returned (vset (~~~s)) ∧ Below w.heap.size w w' := by
  have h0 := wdI_not s 0 (by omega)
  have h1 := wdI_not s 1 (by omega)
  have h2 := wdI_not s 2 (by omega)
  have h3 := wdI_not s 3 (by omega)
  unfold vset
  go_enter Tryd.func47, Tryd.ntmps47
  go_wp2
  go_loopw [4] (fun i wr => ∃ (k : Nat) (a b c d : Int), i = .int .i64 k ∧ wr = (w.alloc (.cells #[.int .u64 a, .int .u64 b, .int .u64 c, .int .u64 d] 36)).alloc (.cells #[.int .u64 0, .int .u64 0, .int .u64 0, .int .u64 0] 36) ∧ mixed s (~~~s) k a b c d)
    (fun i _ => 4 - (intOf i).toNat)
  case atStart => exact ⟨0, _, _, _, _, rfl, rfl, .inl ⟨rfl, rfl, rfl, rfl, rfl⟩⟩
  case round =>
    obtain ⟨k, a, b, c, d, rfl, rfl, hk⟩ := hrel
    rcases hk with ⟨rfl, rfl, rfl, rfl, rfl⟩ | ⟨rfl, rfl, rfl, rfl, rfl⟩ | ⟨rfl, rfl, rfl, rfl, rfl⟩ | ⟨rfl, rfl, rfl, rfl, rfl⟩ | ⟨rfl, rfl, rfl, rfl, rfl⟩
    · go_wp2
      go_roundw
      case rel => exact ⟨1, _, _, _, _, by go_num, rfl, .inr (.inl ⟨rfl, rfl, rfl, rfl, rfl⟩)⟩
      case measure => simp [intOf]
    · go_wp2
      go_roundw
      case rel => exact ⟨2, _, _, _, _, by go_num, rfl, .inr (.inr (.inl ⟨rfl, rfl, rfl, rfl, rfl⟩))⟩
      case measure => simp [intOf]
    · go_wp2
      go_roundw
      case rel => exact ⟨3, _, _, _, _, by go_num, rfl, .inr (.inr (.inr (.inl ⟨rfl, rfl, rfl, rfl, rfl⟩)))⟩
      case measure => simp [intOf]
    · go_wp2
      go_roundw
      case rel => exact ⟨4, _, _, _, _, by go_num, rfl, .inr (.inr (.inr (.inr ⟨rfl, rfl, rfl, rfl, rfl⟩)))⟩
      case measure => simp [intOf]
    · go_wp2
      refine bodyPost_ret (v := .agg #[.int .u64 (wdI (~~~s) 0), .int .u64 (wdI (~~~s) 1), .int .u64 (wdI (~~~s) 2), .int .u64 (wdI (~~~s) 3)]) (by simp [results, Tryd.results47, go_sem]) rfl ⟨rfl, ?_⟩
      exact ((Below.refl _ _).alloc (Nat.le_refl _) _).alloc (by simp) _

theorem vset_zero : (Value.agg #[.int .u64 0, .int .u64 0, .int .u64 0, .int .u64 0]) = vset 0#256 := by
  have h : ∀ i, i < 4 → wdI 0#256 i = 0 := by decide
  unfold vset; rw [h 0 (by omega), h 1 (by omega), h 2 (by omega), h 3 (by omega)]

/-- All bytes. -/
def full : BS := ~~~0#256

theorem not_zero (w : World) : Calls Tryd.prog 47 #[.agg #[.int .u64 0, .int .u64 0, .int .u64 0, .int .u64 0]] w fun e w' => e = .returned (.agg #[.int .u64 (wdI full 0), .int .u64 (wdI full 1), .int .u64 (wdI full 2), .int .u64 (wdI full 3)]) ∧ Below w.heap.size w w' := by
  rw [vset_zero]; exact not_any 0#256 w

end Go.Proofs.YtdodkbpagbblmaaDoor
