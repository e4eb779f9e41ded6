import Derived.RangeFuncBox
import Derived.Test.YtegmoeeeomjkgaaDoorJ
import Derived.Test.YtegmoeeeomjkgaaDoorRefB
namespace Go.Proofs.YtegmoeeeomjkgaaDoor
open Go Go.RowKit Go.Shelf

attribute [local go_sem] Oper.semAt_some

theorem cell_new_l (W : World) (v : Value) (t : TypeId) : (W.alloc (.cells #[v] t)).cell? ⟨W.heap.size, 0, none⟩ = some v ∧ (W.alloc (.cells #[v] t)).frozen? ⟨W.heap.size, 0, none⟩ = false :=
  ⟨(Boxed.new W t v).cell, (Boxed.new W t v).frozen⟩
theorem cell_alloc_l {W : World} {a : Addr} {v : Value} (o : Obj) (h : W.cell? a = some v) : (W.alloc o).cell? a = some v := cell_kept h (World.grownBy_alloc W o none) (fun r e => by cases e)
theorem frozen_alloc_l {W : World} {a : Addr} {v : Value} (o : Obj) (h : W.cell? a = some v) (hf : W.frozen? a = false) : (W.alloc o).frozen? a = false := (frozen_kept h (World.grownBy_alloc W o none) (fun r e => by cases e)).trans hf

theorem set_same {W : World} {a : Addr} {u v : Value} (h : W.cell? a = some u) : (W.setCell a v).cell? a = some v := World.cell?_setCell_same _ _ _ h
theorem set_else {W : World} {b c : Nat} {u v : Value} (h : W.cell? ⟨b, 0, none⟩ = some u) (hne : c ≠ b) : (W.setCell ⟨c, 0, none⟩ v).cell? ⟨b, 0, none⟩ = some u :=
  (World.cell?_setCell_other W ⟨c, 0, none⟩ ⟨b, 0, none⟩ v (fun e => hne (by injection e))).trans h
theorem fset {W : World} {a b : Addr} {v : Value} (h : W.frozen? b = false) : (W.setCell a v).frozen? b = false := (World.frozen?_setCell W a b v).trans h

theorem eql_func (a : Value) (w : World) : (binOp .eql 55 (.func (.func 45) #[] #[a]) .nilFunc).run Tryd.prog w = .ok (.bool false) w := by
  kernel_rfl

theorem prefix_at {L pre : List Nat} {x : Nat} (h : pre ++ [x] <+: L) : L[pre.length]? = some x := by
  obtain ⟨t, rfl⟩ := h
  simp

set_option maxRecDepth 100000 in
set_option maxHeartbeats 4000000 in
theorem goes_in (n : Nat) (hn : 6 ≤ n) (s : BS) (Bn : Nat) (a : Option Addr) (cap : Nat) (lv : Int) (w : World) (hG : Glob w) (hBn : Blk w Bn 29 (cset s)) (hl : RowY w a (bytesL s)) :
    CallsIn Fence.wide n Tryd.prog 33 #[.func (.func 45) #[] #[.pointer (some ⟨Bn, 0, none⟩)], .slice a (bytesL s).length cap, .int .i64 lv] w fun e W' => e = .returned (.bool true) ∧ Below w.heap.size w W' := by
  have h1 : 1 ≤ n := by omega
  have h00 : 0 < w.heap.size := lt_of_cell (hG.1 0 (by decide))
  have hlenb := length_bytesL s
  have HE := eql_func
  have HL := Lib.hid hl
  clear hl
  refine callsIn_of_wp_marks Tryd.func33 rfl trivial ?_ rfl
  simp only [Tryd.ntmps33, List.size_toArray, List.length_cons, List.length_nil, Nat.reduceAdd, Nat.reduceSub, Array.replicate_succ, Array.replicate_zero, List.push_toArray, List.append_toArray, List.nil_append, List.cons_append]
  gi_wp2
  have c0 := cell_new_l w (.slice a (bytesL s).length cap) 23
  have c1 := cell_new_l (w.alloc (.cells #[.slice a (bytesL s).length cap] 23)) (.int .i64 lv) 3
  have c2 := cell_new_l ((w.alloc (.cells #[.slice a (bytesL s).length cap] 23)).alloc (.cells #[.int .i64 lv] 3)) (.bool false) 4
  have c3 := cell_new_l (((w.alloc (.cells #[.slice a (bytesL s).length cap] 23)).alloc (.cells #[.int .i64 lv] 3)).alloc (.cells #[.bool false] 4)) (.int .i64 0) 3
  simp only [World.size_alloc] at c1 c2 c3
  have k0 := cell_alloc_l (.cells #[.int .i64 0] 3) (cell_alloc_l (.cells #[.bool false] 4) (cell_alloc_l (.cells #[.int .i64 lv] 3) c0.1))
  have k1 := cell_alloc_l (.cells #[.int .i64 0] 3) (cell_alloc_l (.cells #[.bool false] 4) c1.1)
  have k2 := cell_alloc_l (.cells #[.int .i64 0] 3) c2.1
  have f2 := frozen_alloc_l (.cells #[.int .i64 0] 3) c2.1 c2.2
  have hB0 : Below w.heap.size w ((((w.alloc (.cells #[.slice a (bytesL s).length cap] 23)).alloc (.cells #[.int .i64 lv] 3)).alloc (.cells #[.bool false] 4)).alloc (.cells #[.int .i64 0] 3)) :=
    ((((Below.refl _ w).alloc (Nat.le_refl _) _).alloc (by simp) _).alloc (by simp; omega) _).alloc (by simp; omega) _
  have hsz : ((((w.alloc (.cells #[.slice a (bytesL s).length cap] 23)).alloc (.cells #[.int .i64 lv] 3)).alloc (.cells #[.bool false] 4)).alloc (.cells #[.int .i64 0] 3)).heap.size = w.heap.size + 4 := by simp
  obtain ⟨W0, hW0⟩ : ∃ W0, ((((w.alloc (.cells #[.slice a (bytesL s).length cap] 23)).alloc (.cells #[.int .i64 lv] 3)).alloc (.cells #[.bool false] 4)).alloc (.cells #[.int .i64 0] 3)) = W0 := ⟨_, rfl⟩
  rw [hW0] at k0 k1 k2 f2 c3 hB0 hsz ⊢
  clear hW0 c0 c1 c2
  refine wpIn_rangeFunc_ownG rfl h1 (gf := 45) (lb := #[.pointer (some ⟨Bn, 0, none⟩)]) rfl trivial (enters_of Tryd.func45 (by kernel_rfl) rfl)
    (bytes_stops (n - 1) (by omega) Bn s W0 (hBn.below hB0 hBn.lt) (hG.below (Nat.le_refl _) hB0).1) kpG_t kpG_b (Below.refl _ _) (fun _ => rfl)
    (fun pre W => (W.cell? ⟨w.heap.size, 0, none⟩ = some (.slice a (bytesL s).length cap) ∧ W.cell? ⟨w.heap.size + 1, 0, none⟩ = some (.int .i64 lv) ∧ W.cell? ⟨w.heap.size + 1 + 1, 0, none⟩ = some (.bool false) ∧ W.frozen? ⟨w.heap.size + 1 + 1, 0, none⟩ = false ∧ W.cell? ⟨w.heap.size + 1 + 1 + 1, 0, none⟩ = some (.int .i64 pre.length) ∧ W.frozen? ⟨w.heap.size + 1 + 1 + 1, 0, none⟩ = false) ∧ Below w.heap.size w W)
    (fun c pre W => (c = .ret ∧ ∃ r, W.cell? ⟨w.heap.size + 1 + 1, 0, none⟩ = some (.bool r) ∧ (pre.map Fin.val <+: bytesL s → r = true)) ∧ Below w.heap.size w W)
    (OwnFrom.and (Own.from (fun s A B row hs hg hr => ⟨cell_kept hs.1 hg hr, cell_kept hs.2.1 hg hr, cell_kept hs.2.2.1 hg hr, (frozen_kept hs.2.2.1 hg hr).trans hs.2.2.2.1, cell_kept hs.2.2.2.2.1 hg hr, (frozen_kept hs.2.2.2.2.1 hg hr).trans hs.2.2.2.2.2⟩) _) (ownFrom_below (Nat.le_refl _) (by omega)))
    (fun c => OwnFrom.and (Own.from (fun s A B row hs hg hr => ⟨hs.1, hs.2.imp fun r h => ⟨cell_kept h.1 hg hr, h.2⟩⟩) _) (ownFrom_below (Nat.le_refl _) (by omega)))
    ⟨⟨k0, k1, k2, f2, c3.1, c3.2⟩, hB0⟩
    (fun x => { tmps := #[.func (.func 45) #[] #[.pointer (some ⟨Bn, 0, none⟩)], .slice a (bytesL s).length cap, .int .i64 lv, undef, .pointer (some ⟨w.heap.size, 0, none⟩), .pointer (some ⟨w.heap.size + 1, 0, none⟩), .pointer (some ⟨w.heap.size + 1 + 1, 0, none⟩), .pointer (some ⟨w.heap.size + 1 + 1 + 1, 0, none⟩), .int .u8 ((x.val : Nat) : Int), .func (.func 45) #[] #[.pointer (some ⟨Bn, 0, none⟩)], .bool false, .func (.func 45) #[] #[.pointer (some ⟨Bn, 0, none⟩)], .int .u8 ((x.val : Nat) : Int), undef, undef, undef, undef, undef, undef, undef, undef, undef, undef, undef, undef, undef, undef, undef, undef, undef, undef, undef, undef, undef], defers := [] }) ?assign ?body ?done ?stop
  case assign =>
    intro l x W K hK
    gi_wp2
    exact hK
  case body =>
    rintro l pre x W ⟨⟨p0, p1, p2, q2, p3, q3⟩, hB⟩ hlt
    obtain ⟨x, hx⟩ := x
    dsimp only
    have HX := Lib.hid (List.getElem?_eq_getElem hlt)
    obtain ⟨y, hy⟩ : ∃ y, y = (bytesL s)[pre.length] := ⟨_, rfl⟩
    rw [← hy] at HX
    clear hy
    have hy256 : y < 256 := by
      have := List.mem_of_getElem? HX.out
      exact ((mem_bytesL s y).1 this).1
    obtain ⟨b, off, rfl, e0⟩ := HL.out _ _ HX.out
    have r0 : W.cell? ⟨b, off + pre.length, none⟩ = some (.int .u8 y) := (hB.cell (p := ⟨b, _, none⟩) (lt_of_cell e0)).trans e0
    clear e0
    have hge : decide ((bytesL s).length ≤ pre.length) = false := by simp; omega
    by_cases hxy : x = y
    · subst hxy
      by_cases hlv : (pre.length : Int) + 1 = lv
      · have hlv' : ((pre.length : Int) + 1 == lv) = true := by simpa using hlv
        gi_wp2
        exact ⟨((KeepsOthers.setCell _ _ _).trans (KeepsOthers.setCell _ _ _)).from _, ⟨rfl, true, set_same (set_else p2 (by omega)), fun _ => rfl⟩, (hB.setCell (p := ⟨w.heap.size + 1 + 1 + 1, 0, none⟩) (by simp; omega) _).setCell (p := ⟨w.heap.size + 1 + 1, 0, none⟩) (by simp; omega) _⟩
      · have hlv' : ((pre.length : Int) + 1 == lv) = false := by simpa using hlv
        gi_wp2
        refine ⟨(KeepsOthers.setCell _ _ _).from _, KpG.below ((Below.refl w.heap.size W).setCell (p := ⟨w.heap.size + 1 + 1 + 1, 0, none⟩) (by simp; omega) _) h00, ⟨set_else p0 (by omega), set_else p1 (by omega), set_else p2 (by omega), fset q2, ?_, fset q3⟩, hB.setCell (p := ⟨w.heap.size + 1 + 1 + 1, 0, none⟩) (by simp; omega) _⟩
        have hpl : (((pre ++ [(⟨x, hx⟩ : Fin 256)]).length : Nat) : Int) = (pre.length : Int) + 1 := by simp
        rw [hpl]
        exact World.cell?_setCell_same' _ _ _ (by rw [p3]; rfl)
    · have hne : ((x : Int) == (y : Int)) = false := by simpa using fun h => hxy (by omega)
      gi_wp2
      refine ⟨(KeepsOthers.setCell _ _ _).from _, ⟨rfl, false, World.cell?_setCell_same' _ _ _ (by rw [p2]; rfl), fun h => ?_⟩, hB.setCell (p := ⟨w.heap.size + 1 + 1, 0, none⟩) (by simp; omega) _⟩
      rw [List.map_append] at h
      have h2 := prefix_at h
      rw [List.length_map, HX.out] at h2
      exact absurd (Option.some.inj h2).symm hxy
  case done =>
    rintro D ys W hD hys ⟨⟨p0, p1, p2, q2, p3, q3⟩, hB⟩ hK
    have hys2 : ys.length = (bytesL s).length := by rw [← show ys.map Fin.val = bytesL s from hys]; simp
    rw [hys2] at p3
    gi_wp2
    have hK' := (KeepsOthers.setCell W ⟨w.heap.size + 1 + 1, 0, none⟩ (.bool true)).same D _ hK rfl
    refine ⟨by simp, .inl ⟨_, _, rfl, run_takeDeferred hK', ?_⟩⟩
    have hc5 := cell_kept (World.cell?_setCell_same' W ⟨w.heap.size + 1 + 1, 0, none⟩ (.bool true) (by rw [p2]; rfl)) (grownBy_putObj' _ D (.deferred none)) (fun r e => by cases e; exact ⟨_, hK', rfl⟩)
    refine ⟨.bool true, ?_, rfl, (hB.setCell (p := ⟨w.heap.size + 1 + 1, 0, none⟩) (by simp; omega) _).trans (belowK_b (w := w) (Nat.le_refl _) _ D _ _ (by omega) hK' rfl rfl)⟩
    simp [results, Tryd.f33, go_sem, hc5]
  case stop =>
    rintro D c pre W hD hpre ⟨⟨rfl, r, hr, himp⟩, hB⟩ hK
    obtain rfl := himp hpre
    gi_wp2
    refine ⟨by simp, .inl ⟨_, _, rfl, run_takeDeferred hK, ?_⟩⟩
    have hc5 := cell_kept hr (grownBy_putObj' _ D (.deferred none)) (fun r e => by cases e; exact ⟨_, hK, rfl⟩)
    refine ⟨.bool true, ?_, rfl, hB.trans (belowK_b (w := w) (Nat.le_refl _) W D _ _ (by omega) hK rfl rfl)⟩
    simp [results, Tryd.f33, go_sem, hc5]

/-- What Least tells of a set's bytes. -/
def leastV : List Nat → Value
  | [] => .tuple #[.int .u8 0, .bool false]
  | x :: _ => .tuple #[.int .u8 x, .bool true]

set_option maxRecDepth 100000 in
set_option maxHeartbeats 4000000 in
theorem least_in (n : Nat) (hn : 6 ≤ n) (s : BS) (w : World) (hG : Glob w) :
    CallsIn Fence.wide n Tryd.prog 22 #[vset s] w fun e W' => e = .returned (leastV (bytesL s)) ∧ Below w.heap.size w W' := by
  have h1 : 1 ≤ n := by omega
  have h00 : 0 < w.heap.size := lt_of_cell (hG.1 0 (by decide))
  unfold vset
  refine callsIn_of_wp_marks Tryd.func22 rfl trivial ?_ rfl
  simp only [Tryd.ntmps22, List.size_toArray, List.length_cons, List.length_nil, Nat.reduceAdd, Nat.reduceSub, Array.replicate_succ, Array.replicate_zero, List.push_toArray, List.append_toArray, List.nil_append, List.cons_append]
  gi_wp2_with (refine ⟨trivial, ?_⟩; gi_at_call 32; refine (bytes_in (n - 1) s _).mono ?_; rintro e w' ⟨rfl, rfl⟩)
  have bT := Blk.new (((w.alloc (.cells #[.int .u64 (wdI s 0), .int .u64 (wdI s 1), .int .u64 (wdI s 2), .int .u64 (wdI s 3)] 29)).alloc (.cells #[.int .u8 0] 5)).alloc (.cells #[.bool false] 4)) 29 (cset s)
  have c1 := cell_new_l (w.alloc (.cells #[.int .u64 (wdI s 0), .int .u64 (wdI s 1), .int .u64 (wdI s 2), .int .u64 (wdI s 3)] 29)) (.int .u8 0) 5
  have c2 := cell_new_l ((w.alloc (.cells #[.int .u64 (wdI s 0), .int .u64 (wdI s 1), .int .u64 (wdI s 2), .int .u64 (wdI s 3)] 29)).alloc (.cells #[.int .u8 0] 5)) (.bool false) 4
  simp only [World.size_alloc] at bT c1 c2
  have k1 := cell_alloc_l (.cells (cset s) 29) (cell_alloc_l (.cells #[.bool false] 4) c1.1)
  have f1 := frozen_alloc_l (.cells (cset s) 29) (cell_alloc_l (.cells #[.bool false] 4) c1.1) (frozen_alloc_l (.cells #[.bool false] 4) c1.1 c1.2)
  have k2 := cell_alloc_l (.cells (cset s) 29) c2.1
  have f2 := frozen_alloc_l (.cells (cset s) 29) c2.1 c2.2
  have hB0 : Below w.heap.size w ((((w.alloc (.cells #[.int .u64 (wdI s 0), .int .u64 (wdI s 1), .int .u64 (wdI s 2), .int .u64 (wdI s 3)] 29)).alloc (.cells #[.int .u8 0] 5)).alloc (.cells #[.bool false] 4)).alloc (.cells (cset s) 29)) :=
    ((((Below.refl _ w).alloc (Nat.le_refl _) _).alloc (by simp) _).alloc (by simp; omega) _).alloc (by simp; omega) _
  have hsz : ((((w.alloc (.cells #[.int .u64 (wdI s 0), .int .u64 (wdI s 1), .int .u64 (wdI s 2), .int .u64 (wdI s 3)] 29)).alloc (.cells #[.int .u8 0] 5)).alloc (.cells #[.bool false] 4)).alloc (.cells (cset s) 29)).heap.size = w.heap.size + 4 := by simp
  obtain ⟨W0, hW0⟩ : ∃ W0, ((((w.alloc (.cells #[.int .u64 (wdI s 0), .int .u64 (wdI s 1), .int .u64 (wdI s 2), .int .u64 (wdI s 3)] 29)).alloc (.cells #[.int .u8 0] 5)).alloc (.cells #[.bool false] 4)).alloc (.cells (cset s) 29)) = W0 := ⟨_, rfl⟩
  rw [hW0] at bT k1 f1 k2 f2 hB0 hsz ⊢
  clear hW0 c1 c2
  refine wpIn_rangeFunc_ownG rfl h1 (gf := 45) (lb := #[.pointer (some ⟨w.heap.size + 1 + 1 + 1, 0, none⟩)]) rfl trivial (enters_of Tryd.func45 (by kernel_rfl) rfl)
    (bytes_stops (n - 1) (by omega) (w.heap.size + 1 + 1 + 1) s W0 bT (hG.below (Nat.le_refl _) hB0).1) kpG_t kpG_b (Below.refl _ _) (fun _ => rfl)
    (fun pre W => (pre = [] ∧ W.cell? ⟨w.heap.size + 1, 0, none⟩ = some (.int .u8 0) ∧ W.frozen? ⟨w.heap.size + 1, 0, none⟩ = false ∧ W.cell? ⟨w.heap.size + 1 + 1, 0, none⟩ = some (.bool false) ∧ W.frozen? ⟨w.heap.size + 1 + 1, 0, none⟩ = false) ∧ Below w.heap.size w W)
    (fun c pre W => (c = .ret ∧ ∃ x : Fin 256, pre = [x] ∧ W.cell? ⟨w.heap.size + 1, 0, none⟩ = some (.int .u8 ((x.val : Nat) : Int)) ∧ W.cell? ⟨w.heap.size + 1 + 1, 0, none⟩ = some (.bool true)) ∧ Below w.heap.size w W)
    (OwnFrom.and (Own.from (fun s A B row hs hg hr => ⟨hs.1, cell_kept hs.2.1 hg hr, (frozen_kept hs.2.1 hg hr).trans hs.2.2.1, cell_kept hs.2.2.2.1 hg hr, (frozen_kept hs.2.2.2.1 hg hr).trans hs.2.2.2.2⟩) _) (ownFrom_below (Nat.le_refl _) (by omega)))
    (fun c => OwnFrom.and (Own.from (fun s A B row hs hg hr => ⟨hs.1, hs.2.imp fun x h => ⟨h.1, cell_kept h.2.1 hg hr, cell_kept h.2.2 hg hr⟩⟩) _) (ownFrom_below (Nat.le_refl _) (by omega)))
    ⟨⟨rfl, k1, f1, k2, f2⟩, hB0⟩
    (fun x => { tmps := #[.agg #[.int .u64 (wdI s 0), .int .u64 (wdI s 1), .int .u64 (wdI s 2), .int .u64 (wdI s 3)], .pointer (some ⟨w.heap.size, 0, none⟩), .pointer (some ⟨w.heap.size + 1, 0, none⟩), .pointer (some ⟨w.heap.size + 1 + 1, 0, none⟩), .int .u8 ((x.val : Nat) : Int), .agg #[.int .u64 (wdI s 0), .int .u64 (wdI s 1), .int .u64 (wdI s 2), .int .u64 (wdI s 3)], .func (.func 45) #[] #[.pointer (some ⟨w.heap.size + 1 + 1 + 1, 0, none⟩)], .int .u8 ((x.val : Nat) : Int), undef], defers := [] }) ?assign ?body ?done ?stop
  case assign =>
    intro l x W K hK
    gi_wp2
    exact hK
  case body =>
    rintro l pre x W ⟨⟨rfl, p1, q1, p2, q2⟩, hB⟩ hlt
    gi_wp2
    exact ⟨((KeepsOthers.setCell _ _ _).trans (KeepsOthers.setCell _ _ _)).from _, ⟨rfl, x, rfl, set_else (set_same p1) (by omega), set_same (set_else p2 (by omega))⟩, (hB.setCell (p := ⟨w.heap.size + 1, 0, none⟩) (by simp) _).setCell (p := ⟨w.heap.size + 1 + 1, 0, none⟩) (by simp; omega) _⟩
  case done =>
    rintro D ys W hD hys ⟨⟨rfl, p1, q1, p2, q2⟩, hB⟩ hK
    have hys2 := Lib.hid (show leastV (bytesL s) = .tuple #[.int .u8 0, .bool false] by rw [← (show ([] : List (Fin 256)).map Fin.val = bytesL s from hys)]; rfl)
    gi_wp2
    have hK' := (KeepsOthers.setCell (W.setCell ⟨w.heap.size + 1, 0, none⟩ (.int .u8 0)) ⟨w.heap.size + 1 + 1, 0, none⟩ (.bool false)).same D _ ((KeepsOthers.setCell W ⟨w.heap.size + 1, 0, none⟩ (.int .u8 0)).same D _ hK rfl) rfl
    refine ⟨by simp, .inl ⟨_, _, rfl, run_takeDeferred hK', ?_⟩⟩
    have hc1 : ((W.setCell ⟨w.heap.size + 1, 0, none⟩ (.int .u8 0)).setCell ⟨w.heap.size + 1 + 1, 0, none⟩ (.bool false)).cell? ⟨w.heap.size + 1, 0, none⟩ = some (.int .u8 0) := by
      exact set_else (set_same p1) (by omega)
    have hc2 : ((W.setCell ⟨w.heap.size + 1, 0, none⟩ (.int .u8 0)).setCell ⟨w.heap.size + 1 + 1, 0, none⟩ (.bool false)).cell? ⟨w.heap.size + 1 + 1, 0, none⟩ = some (.bool false) := set_same (set_else p2 (by omega))
    have hc5 := cell_kept hc1 (grownBy_putObj' _ D (.deferred none)) (fun r e => by cases e; exact ⟨_, hK', rfl⟩)
    have hc6 := cell_kept hc2 (grownBy_putObj' _ D (.deferred none)) (fun r e => by cases e; exact ⟨_, hK', rfl⟩)
    refine ⟨.tuple #[.int .u8 0, .bool false], ?_, by rw [hys2.out], ((hB.setCell (p := ⟨w.heap.size + 1, 0, none⟩) (by simp) _).setCell (p := ⟨w.heap.size + 1 + 1, 0, none⟩) (by simp; omega) _).trans (belowK_b (w := w) (Nat.le_refl _) _ D _ _ (by omega) hK' rfl rfl)⟩
    simp [results, Tryd.f22, go_sem, hc5, hc6]
  case stop =>
    rintro D c pre W hD hpre ⟨⟨rfl, x, rfl, hr1, hr2⟩, hB⟩ hK
    have hb : ∃ t, bytesL s = x.val :: t := by
      obtain ⟨t, ht⟩ := (show [x].map Fin.val <+: bytesL s from hpre)
      exact ⟨t, ht.symm⟩
    have hys2 := Lib.hid (show leastV (bytesL s) = .tuple #[.int .u8 ((x.val : Nat) : Int), .bool true] by obtain ⟨t, ht⟩ := hb; rw [ht]; rfl)
    gi_wp2
    refine ⟨by simp, .inl ⟨_, _, rfl, run_takeDeferred hK, ?_⟩⟩
    have hc5 := cell_kept hr1 (grownBy_putObj' _ D (.deferred none)) (fun r e => by cases e; exact ⟨_, hK, rfl⟩)
    have hc6 := cell_kept hr2 (grownBy_putObj' _ D (.deferred none)) (fun r e => by cases e; exact ⟨_, hK, rfl⟩)
    refine ⟨.tuple #[.int .u8 ((x.val : Nat) : Int), .bool true], ?_, by rw [hys2.out], hB.trans (belowK_b (w := w) (Nat.le_refl _) W D _ _ (by omega) hK rfl rfl)⟩
    simp [results, Tryd.f22, go_sem, hc5, hc6]
end Go.Proofs.YtegmoeeeomjkgaaDoor
