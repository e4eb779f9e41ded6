import Derived.Test.YtegmoeeeomjkgaaDoorA
namespace Go.Proofs.YtegmoeeeomjkgaaDoor
open Go Go.RowKit

/-- A block of cells known whole, none frozen. -/
def Blk (W : World) (B : Nat) (t : TypeId) (cs : Array Value) : Prop := W.heap[B]? = some (.cells cs t (0, 0))

theorem Blk.lt {W : World} {B t : Nat} {cs : Array Value} (h : Blk W B t cs) : B < W.heap.size := (Array.getElem?_eq_some_iff.1 h).1
theorem Blk.cell {W : World} {B t : Nat} {cs : Array Value} (h : Blk W B t cs) (i : Nat) : W.cell? ⟨B, i, none⟩ = cs[i]? := by
  unfold World.cell?
  simp only [show W.heap[B]? = _ from h]
  rfl
theorem Blk.frozen {W : World} {B t : Nat} {cs : Array Value} (h : Blk W B t cs) (i : Nat) : W.frozen? ⟨B, i, none⟩ = false := by
  unfold World.frozen?
  simp only [show W.heap[B]? = _ from h]
  simp
theorem Blk.new (W : World) (t : TypeId) (cs : Array Value) : Blk (W.alloc (.cells cs t)) W.heap.size t cs := World.alloc_heap_new W _
theorem Blk.kept {W W' : World} {row : Option Nat} {B t : Nat} {cs : Array Value} (h : Blk W B t cs) (hg : W.grownBy W' row) (hne : some B ≠ row) : Blk W' B t cs := (hg.block B h.lt hne).trans h
theorem Blk.alloc {W : World} {B t : Nat} {cs : Array Value} (h : Blk W B t cs) (o : Obj) : Blk (W.alloc o) B t cs := h.kept (World.grownBy_alloc W o none) (by simp)
theorem Blk.drew {W : World} {B t : Nat} {cs : Array Value} (h : Blk W B t cs) : Blk W.drew B t cs := h
theorem Blk.below {W W' : World} {n B t : Nat} {cs : Array Value} (h : Blk W B t cs) (hb : Below n W W') (hn : B < n) : Blk W' B t cs := (hb.block B hn).trans h
theorem Blk.other {W : World} {B t : Nat} {cs : Array Value} (h : Blk W B t cs) {a : Addr} (hne : B ≠ a.block) (u : Value) : Blk (W.setCell a u) B t cs := (Below.heap_setCell W a u B hne).trans h
theorem Blk.set {W : World} {B t : Nat} {cs : Array Value} (h : Blk W B t cs) (i : Nat) (u : Value) : Blk (W.setCell ⟨B, i, none⟩ u) B t (cs.setIfInBounds i u) := by
  obtain ⟨hlt, hk⟩ := Array.getElem?_eq_some_iff.1 h
  show (W.heap.modify B _)[B]? = _
  rw [Array.getElem?_eq_getElem (by rw [Array.size_modify]; exact hlt), Array.getElem_modify_self, hk]
  rfl

theorem Blk.set4 {W : World} {B t : Nat} {a b c d : Value} (h : Blk W B t #[a, b, c, d]) (a' b' c' d' : Value) :
    Blk ((((W.setCell ⟨B, 0, none⟩ a').setCell ⟨B, 1, none⟩ b').setCell ⟨B, 2, none⟩ c').setCell ⟨B, 3, none⟩ d') B t #[a', b', c', d'] := by
  simpa using (((h.set 0 a').set 1 b').set 2 c').set 3 d'
theorem below_set4 {n B : Nat} {w W : World} (h : Below n w W) (hn : n ≤ B) (a' b' c' d' : Value) :
    Below n w ((((W.setCell ⟨B, 0, none⟩ a').setCell ⟨B, 1, none⟩ b').setCell ⟨B, 2, none⟩ c').setCell ⟨B, 3, none⟩ d') :=
  (((h.setCell (p := ⟨B, 0, none⟩) hn _).setCell (p := ⟨B, 1, none⟩) hn _).setCell (p := ⟨B, 2, none⟩) hn _).setCell (p := ⟨B, 3, none⟩) hn _

theorem below_drew_trans {w W w' : World} (h : Below w.heap.size w W) (hB : Below W.drew.heap.size W.drew w') : Below w.heap.size w w' :=
  h.drew.trans (Below.mono hB h.size)

theorem ix0 (a b c d : Int) (w : World) : (Instr.index 29 (.agg #[.int .u64 a, .int .u64 b, .int .u64 c, .int .u64 d]) (.int .i64 0)).run Tryd.prog w = .ok (.int .u64 a) w := by kernel_rfl
theorem ix1 (a b c d : Int) (w : World) : (Instr.index 29 (.agg #[.int .u64 a, .int .u64 b, .int .u64 c, .int .u64 d]) (.int .i64 1)).run Tryd.prog w = .ok (.int .u64 b) w := by kernel_rfl
theorem ix2 (a b c d : Int) (w : World) : (Instr.index 29 (.agg #[.int .u64 a, .int .u64 b, .int .u64 c, .int .u64 d]) (.int .i64 2)).run Tryd.prog w = .ok (.int .u64 c) w := by kernel_rfl
theorem ix3 (a b c d : Int) (w : World) : (Instr.index 29 (.agg #[.int .u64 a, .int .u64 b, .int .u64 c, .int .u64 d]) (.int .i64 3)).run Tryd.prog w = .ok (.int .u64 d) w := by kernel_rfl

/-- The words of a set while a going over turns them into another's: behind k words. -/
def mixed (s t : BS) (k : Nat) (a b c d : Int) : Prop :=
  k = 0 ∧ a = wdI s 0 ∧ b = wdI s 1 ∧ c = wdI s 2 ∧ d = wdI s 3 ∨ k = 1 ∧ a = wdI t 0 ∧ b = wdI s 1 ∧ c = wdI s 2 ∧ d = wdI s 3 ∨ k = 2 ∧ a = wdI t 0 ∧ b = wdI t 1 ∧ c = wdI s 2 ∧ d = wdI s 3 ∨
    k = 3 ∧ a = wdI t 0 ∧ b = wdI t 1 ∧ c = wdI t 2 ∧ d = wdI s 3 ∨ k = 4 ∧ a = wdI t 0 ∧ b = wdI t 1 ∧ c = wdI t 2 ∧ d = wdI t 3

set_option maxRecDepth 100000 in
set_option maxHeartbeats 2000000 in
theorem meet_any (s t : BS) (w : World) : Calls Tryd.prog 26 #[vset s, vset t] w fun e w' => e = .returned (vset (s &&& t)) ∧ Below w.heap.size w w' := by
  have h0 := wdI_and s t 0
  have h1 := wdI_and s t 1
  have h2 := wdI_and s t 2
  have h3 := wdI_and s t 3
  have i0 := ix0 (wdI t 0) (wdI t 1) (wdI t 2) (wdI t 3)
  have i1 := ix1 (wdI t 0) (wdI t 1) (wdI t 2) (wdI t 3)
  have i2 := ix2 (wdI t 0) (wdI t 1) (wdI t 2) (wdI t 3)
  have i3 := ix3 (wdI t 0) (wdI t 1) (wdI t 2) (wdI t 3)
  unfold vset
  go_enter Tryd.func26, Tryd.ntmps26
  go_wp2
  go_loopw [8] (fun i wr => ∃ (k : Nat) (a b c d : Int), i = .int .i64 k ∧ wr = ((w.alloc (.cells #[.int .u64 a, .int .u64 b, .int .u64 c, .int .u64 d] 29)).alloc (.cells #[.int .u64 (wdI t 0), .int .u64 (wdI t 1), .int .u64 (wdI t 2), .int .u64 (wdI t 3)] 29)).alloc (.cells #[.int .u64 0, .int .u64 0, .int .u64 0, .int .u64 0] 29) ∧ mixed s (s &&& t) k a b c d)
    (fun i _ => 4 - (intOf i).toNat)
  case atStart => exact ⟨0, _, _, _, _, rfl, rfl, .inl ⟨rfl, rfl, rfl, rfl, rfl⟩⟩
  case round =>
    obtain ⟨k, a, b, c, d, rfl, rfl, hk⟩ := hrel
    rcases hk with ⟨rfl, rfl, rfl, rfl, rfl⟩ | ⟨rfl, rfl, rfl, rfl, rfl⟩ | ⟨rfl, rfl, rfl, rfl, rfl⟩ | ⟨rfl, rfl, rfl, rfl, rfl⟩ | ⟨rfl, rfl, rfl, rfl, rfl⟩
    · go_wp2
      go_roundw
      case rel => exact ⟨1, _, _, _, _, by go_num, rfl, .inr (.inl ⟨rfl, rfl, rfl, rfl, rfl⟩)⟩
      case measure => simp [intOf]
    · go_wp2
      go_roundw
      case rel => exact ⟨2, _, _, _, _, by go_num, rfl, .inr (.inr (.inl ⟨rfl, rfl, rfl, rfl, rfl⟩))⟩
      case measure => simp [intOf]
    · go_wp2
      go_roundw
      case rel => exact ⟨3, _, _, _, _, by go_num, rfl, .inr (.inr (.inr (.inl ⟨rfl, rfl, rfl, rfl, rfl⟩)))⟩
      case measure => simp [intOf]
    · go_wp2
      go_roundw
      case rel => exact ⟨4, _, _, _, _, by go_num, rfl, .inr (.inr (.inr (.inr ⟨rfl, rfl, rfl, rfl, rfl⟩)))⟩
      case measure => simp [intOf]
    · go_wp2
      refine bodyPost_ret (v := .agg #[.int .u64 (wdI (s &&& t) 0), .int .u64 (wdI (s &&& t) 1), .int .u64 (wdI (s &&& t) 2), .int .u64 (wdI (s &&& t) 3)]) (by simp [results, Tryd.results26, go_sem]) rfl ⟨rfl, ?_⟩
      exact (((Below.refl _ _).alloc (Nat.le_refl _) _).alloc (by simp) _).alloc (by simp; omega) _

set_option maxRecDepth 100000 in
set_option maxHeartbeats 2000000 in
theorem without_any (s t : BS) (w : World) : Calls Tryd.prog 28 #[vset s, vset t] w fun e w' => e = .returned (vset (s &&& ~~~t)) ∧ Below w.heap.size w w' := by
  have h0 := wdI_andNot s t 0 (by omega)
  have h1 := wdI_andNot s t 1 (by omega)
  have h2 := wdI_andNot s t 2 (by omega)
  have h3 := wdI_andNot s t 3 (by omega)
  have i0 := ix0 (wdI t 0) (wdI t 1) (wdI t 2) (wdI t 3)
  have i1 := ix1 (wdI t 0) (wdI t 1) (wdI t 2) (wdI t 3)
  have i2 := ix2 (wdI t 0) (wdI t 1) (wdI t 2) (wdI t 3)
  have i3 := ix3 (wdI t 0) (wdI t 1) (wdI t 2) (wdI t 3)
  unfold vset
  go_enter Tryd.func28, Tryd.ntmps28
  go_wp2
  go_loopw [8] (fun i wr => ∃ (k : Nat) (a b c d : Int), i = .int .i64 k ∧ wr = ((w.alloc (.cells #[.int .u64 a, .int .u64 b, .int .u64 c, .int .u64 d] 29)).alloc (.cells #[.int .u64 (wdI t 0), .int .u64 (wdI t 1), .int .u64 (wdI t 2), .int .u64 (wdI t 3)] 29)).alloc (.cells #[.int .u64 0, .int .u64 0, .int .u64 0, .int .u64 0] 29) ∧ mixed s (s &&& ~~~t) k a b c d)
    (fun i _ => 4 - (intOf i).toNat)
  case atStart => exact ⟨0, _, _, _, _, rfl, rfl, .inl ⟨rfl, rfl, rfl, rfl, rfl⟩⟩
  case round =>
    obtain ⟨k, a, b, c, d, rfl, rfl, hk⟩ := hrel
    rcases hk with ⟨rfl, rfl, rfl, rfl, rfl⟩ | ⟨rfl, rfl, rfl, rfl, rfl⟩ | ⟨rfl, rfl, rfl, rfl, rfl⟩ | ⟨rfl, rfl, rfl, rfl, rfl⟩ | ⟨rfl, rfl, rfl, rfl, rfl⟩
    · go_wp2
      go_roundw
      case rel => exact ⟨1, _, _, _, _, by go_num, rfl, .inr (.inl ⟨rfl, rfl, rfl, rfl, rfl⟩)⟩
      case measure => simp [intOf]
    · go_wp2
      go_roundw
      case rel => exact ⟨2, _, _, _, _, by go_num, rfl, .inr (.inr (.inl ⟨rfl, rfl, rfl, rfl, rfl⟩))⟩
      case measure => simp [intOf]
    · go_wp2
      go_roundw
      case rel => exact ⟨3, _, _, _, _, by go_num, rfl, .inr (.inr (.inr (.inl ⟨rfl, rfl, rfl, rfl, rfl⟩)))⟩
      case measure => simp [intOf]
    · go_wp2
      go_roundw
      case rel => exact ⟨4, _, _, _, _, by go_num, rfl, .inr (.inr (.inr (.inr ⟨rfl, rfl, rfl, rfl, rfl⟩)))⟩
      case measure => simp [intOf]
    · go_wp2
      refine bodyPost_ret (v := .agg #[.int .u64 (wdI (s &&& ~~~t) 0), .int .u64 (wdI (s &&& ~~~t) 1), .int .u64 (wdI (s &&& ~~~t) 2), .int .u64 (wdI (s &&& ~~~t) 3)]) (by simp [results, Tryd.results28, go_sem]) rfl ⟨rfl, ?_⟩
      exact (((Below.refl _ _).alloc (Nat.le_refl _) _).alloc (by simp) _).alloc (by simp; omega) _

set_option maxRecDepth 100000 in
set_option maxHeartbeats 2000000 in
theorem not_any (s : BS) (w : World) : Calls Tryd.prog 29 #[vset s] w fun e w' => e = .returned (vset (~~~s)) ∧ Below w.heap.size w w' := by
  have h0 := wdI_not s 0 (by omega)
  have h1 := wdI_not s 1 (by omega)
  have h2 := wdI_not s 2 (by omega)
  have h3 := wdI_not s 3 (by omega)
  unfold vset
  go_enter Tryd.func29, Tryd.ntmps29
  go_wp2
  go_loopw [4] (fun i wr => ∃ (k : Nat) (a b c d : Int), i = .int .i64 k ∧ wr = (w.alloc (.cells #[.int .u64 a, .int .u64 b, .int .u64 c, .int .u64 d] 29)).alloc (.cells #[.int .u64 0, .int .u64 0, .int .u64 0, .int .u64 0] 29) ∧ mixed s (~~~s) k a b c d)
    (fun i _ => 4 - (intOf i).toNat)
  case atStart => exact ⟨0, _, _, _, _, rfl, rfl, .inl ⟨rfl, rfl, rfl, rfl, rfl⟩⟩
  case round =>
    obtain ⟨k, a, b, c, d, rfl, rfl, hk⟩ := hrel
    rcases hk with ⟨rfl, rfl, rfl, rfl, rfl⟩ | ⟨rfl, rfl, rfl, rfl, rfl⟩ | ⟨rfl, rfl, rfl, rfl, rfl⟩ | ⟨rfl, rfl, rfl, rfl, rfl⟩ | ⟨rfl, rfl, rfl, rfl, rfl⟩
    · go_wp2
      go_roundw
      case rel => exact ⟨1, _, _, _, _, by go_num, rfl, .inr (.inl ⟨rfl, rfl, rfl, rfl, rfl⟩)⟩
      case measure => simp [intOf]
    · go_wp2
      go_roundw
      case rel => exact ⟨2, _, _, _, _, by go_num, rfl, .inr (.inr (.inl ⟨rfl, rfl, rfl, rfl, rfl⟩))⟩
      case measure => simp [intOf]
    · go_wp2
      go_roundw
      case rel => exact ⟨3, _, _, _, _, by go_num, rfl, .inr (.inr (.inr (.inl ⟨rfl, rfl, rfl, rfl, rfl⟩)))⟩
      case measure => simp [intOf]
    · go_wp2
      go_roundw
      case rel => exact ⟨4, _, _, _, _, by go_num, rfl, .inr (.inr (.inr (.inr ⟨rfl, rfl, rfl, rfl, rfl⟩)))⟩
      case measure => simp [intOf]
    · go_wp2
      refine bodyPost_ret (v := .agg #[.int .u64 (wdI (~~~s) 0), .int .u64 (wdI (~~~s) 1), .int .u64 (wdI (~~~s) 2), .int .u64 (wdI (~~~s) 3)]) (by simp [results, Tryd.results29, go_sem]) rfl ⟨rfl, ?_⟩
      exact ((Below.refl _ _).alloc (Nat.le_refl _) _).alloc (by simp) _

theorem vset_zero : (Value.agg #[.int .u64 0, .int .u64 0, .int .u64 0, .int .u64 0]) = vset 0#256 := by
  have h : ∀ i, i < 4 → wdI 0#256 i = 0 := by decide
  unfold vset; rw [h 0 (by omega), h 1 (by omega), h 2 (by omega), h 3 (by omega)]

/-- All bytes. -/
def full : BS := ~~~0#256

theorem not_zero (w : World) : Calls Tryd.prog 29 #[.agg #[.int .u64 0, .int .u64 0, .int .u64 0, .int .u64 0]] w fun e w' => e = .returned (.agg #[.int .u64 (wdI full 0), .int .u64 (wdI full 1), .int .u64 (wdI full 2), .int .u64 (wdI full 3)]) ∧ Below w.heap.size w w' := by
  rw [vset_zero]; exact not_any 0#256 w

set_option maxHeartbeats 400000 in
theorem all_any (w : World) : Calls Tryd.prog 18 #[] w fun e w' => e = .returned (vset full) ∧ Below w.heap.size w w' := by
  unfold vset
  go_enter Tryd.func18, Tryd.ntmps18
  have hb := Blk.new w 29 #[.int .u64 0, .int .u64 0, .int .u64 0, .int .u64 0]
  go_wp2_with fail
  refine (not_zero _).mono ?_
  rintro e w' ⟨rfl, hB⟩
  have hb' := hb.below hB (by simp)
  have c0 : w'.cell? ⟨w.heap.size, 0, none⟩ = some (.int .u64 0) := hb'.cell 0
  have c1 : w'.cell? ⟨w.heap.size, 1, none⟩ = some (.int .u64 0) := hb'.cell 1
  have c2 : w'.cell? ⟨w.heap.size, 2, none⟩ = some (.int .u64 0) := hb'.cell 2
  have c3 : w'.cell? ⟨w.heap.size, 3, none⟩ = some (.int .u64 0) := hb'.cell 3
  have f0 : ∀ i, w'.frozen? ⟨w.heap.size, i, none⟩ = false := hb'.frozen
  go_wp2
  have hb2 := hb'.set4 (.int .u64 (wdI full 0)) (.int .u64 (wdI full 1)) (.int .u64 (wdI full 2)) (.int .u64 (wdI full 3))
  have d0 := hb2.cell 0
  have d1 := hb2.cell 1
  have d2 := hb2.cell 2
  have d3 := hb2.cell 3
  refine bodyPost_ret (v := .agg #[.int .u64 (wdI full 0), .int .u64 (wdI full 1), .int .u64 (wdI full 2), .int .u64 (wdI full 3)]) (by simp [results, Tryd.results18, go_sem, d0, d1, d2, d3]) rfl ⟨rfl, ?_⟩
  exact below_set4 (((Below.refl _ w).alloc (Nat.le_refl _) _).trans (hB.mono (by simp))) (Nat.le_refl _) _ _ _ _

end Go.Proofs.YtegmoeeeomjkgaaDoor
