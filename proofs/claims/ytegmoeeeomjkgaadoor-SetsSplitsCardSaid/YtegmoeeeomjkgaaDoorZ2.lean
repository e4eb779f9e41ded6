import Derived.Deep.RegionWith
import Derived.Deep.RegionHeld3
import Derived.Lib.TrailingZeros
import Derived.Shelf.Abstract
import Derived.Shelf.RegionOpen
import Derived.OwnWalkIn
import Derived.TacticsInMore
import Derived.LoopNIn
import Derived.LoopIn
import Derived.RangeFuncBox
import Derived.Maps.AppendAt
import Derived.Test.YtegmoeeeomjkgaaDoorZ1
section
namespace Go.Proofs.YtegmoeeeomjkgaaDoor
open Go Go.RowKit

/-- Sets as they lie behind a slice. -/
def RowB (w : World) (a : Option Addr) (l : List BS) : Prop :=
  ∀ (i : Nat) (x : BS), l[i]? = some x → ∃ b off, a = some ⟨b, off, none⟩ ∧ w.cell? ⟨b, off + i * 4, none⟩ = some (.int .u64 (wdI x 0)) ∧ w.cell? ⟨b, off + i * 4 + 1, none⟩ = some (.int .u64 (wdI x 1)) ∧ w.cell? ⟨b, off + i * 4 + 2, none⟩ = some (.int .u64 (wdI x 2)) ∧ w.cell? ⟨b, off + i * 4 + 3, none⟩ = some (.int .u64 (wdI x 3))

def unionL (l : List BS) : BS := l.foldl (fun u s => u ||| s) 0#256

theorem cset_zero : cset 0#256 = zcs := by
  have h : ∀ i, i < 4 → wdI 0#256 i = 0 := by decide
  unfold cset zcs; rw [h 0 (by omega), h 1 (by omega), h 2 (by omega), h 3 (by omega)]

set_option maxRecDepth 100000 in
set_option maxHeartbeats 8000000 in
theorem union_any (a : Option Addr) (cap : Nat) (l : List BS) (w : World) (hd : RowB w a l) (hl : l.length ≤ 1048576) :
    Calls Tryd.prog 20 #[.slice a l.length cap] w fun e w' => e = .returned (vset (unionL l)) ∧ Below w.heap.size w w' := by
  have HD := Lib.hid hd
  clear hd
  go_enter Tryd.func20, Tryd.ntmps20
  go_wp2
  go_loopw [10] (fun i wr => ∃ (k : Nat), i = .int .i64 k ∧ k ≤ l.length ∧ Hid (Blk wr w.heap.size 29 zcs) ∧ Hid (Blk wr (w.heap.size + 1) 29 (cset (unionL (l.take k)))) ∧ Hid (Below w.heap.size w wr))
    (fun i _ => l.length - (intOf i).toNat)
  case atStart =>
    refine ⟨0, rfl, Nat.zero_le _, ?_, ?_, ?_⟩
    · exact (Blk.new w 29 zcs).alloc _
    · have h := Blk.new (w.alloc (.cells #[.int .u64 0, .int .u64 0, .int .u64 0, .int .u64 0] 29)) 29 #[.int .u64 0, .int .u64 0, .int .u64 0, .int .u64 0]
      rw [World.size_alloc] at h
      rw [List.take_zero, show unionL [] = 0#256 from rfl, cset_zero]
      exact h
    · exact ((Below.refl _ w).alloc (Nat.le_refl _) _).alloc (by simp) _
  case round =>
    obtain ⟨k, rfl, hk, hZ, hU, hB⟩ := hrel
    by_cases hlt : k < l.length
    · have HX : Hid (l[k]? = some l[k]) := Lib.hid (List.getElem?_eq_getElem hlt)
      obtain ⟨x, hx⟩ : ∃ x, l[k] = x := ⟨_, rfl⟩
      rw [hx] at HX
      obtain ⟨u, hu⟩ : ∃ u, u = unionL (l.take k) := ⟨_, rfl⟩
      rw [← hu] at hU
      have HN : Hid (unionL (l.take (k + 1)) = u ||| x) := by
        refine Lib.hid ?_
        rw [List.take_add_one, HX.out, hu]
        simp [unionL, List.foldl_append]
      clear hx hu
      obtain ⟨b, off, rfl, e0, e1, e2, e3⟩ := HD.out k _ HX.out
      have bl : b < w.heap.size := lt_of_cell e0
      have r0 : wr.cell? ⟨b, off + k * 4, none⟩ = some (.int .u64 (wdI x 0)) := (hB.out.cell (p := ⟨b, _, none⟩) bl).trans e0
      have r1 : wr.cell? ⟨b, off + k * 4 + 1, none⟩ = some (.int .u64 (wdI x 1)) := (hB.out.cell (p := ⟨b, _, none⟩) bl).trans e1
      have r2 : wr.cell? ⟨b, off + k * 4 + 2, none⟩ = some (.int .u64 (wdI x 2)) := (hB.out.cell (p := ⟨b, _, none⟩) bl).trans e2
      have r3 : wr.cell? ⟨b, off + k * 4 + 3, none⟩ = some (.int .u64 (wdI x 3)) := (hB.out.cell (p := ⟨b, _, none⟩) bl).trans e3
      clear e0 e1 e2 e3
      have hszu : w.heap.size + 1 < wr.heap.size := hU.out.lt
      go_wp2
      have hU1 := Lib.hid (hU.out.alloc (.cells (cset x) 29))
      have hZ1 := Lib.hid (hZ.out.alloc (.cells (cset x) 29))
      have hB1 := Lib.hid (hB.out.alloc hB.out.size (.cells (cset x) 29))
      clear hU hZ hB r0 r1 r2 r3
      obtain ⟨wo, hwo⟩ : ∃ wo : World, wo = wr.alloc (.cells (cset x) 29) := ⟨_, rfl⟩
      have hwo2 : wr.alloc (.cells #[.int .u64 (wdI x 0), .int .u64 (wdI x 1), .int .u64 (wdI x 2), .int .u64 (wdI x 3)] 29) = wo := hwo.symm
      rw [← hwo] at hU1 hZ1 hB1
      rw [hwo2]
      clear hwo2
      have h0 := wdI_or u x 0
      have h1 := wdI_or u x 1
      have h2 := wdI_or u x 2
      have h3 := wdI_or u x 3
      have i0 := ix0 (wdI x 0) (wdI x 1) (wdI x 2) (wdI x 3)
      have i1 := ix1 (wdI x 0) (wdI x 1) (wdI x 2) (wdI x 3)
      have i2 := ix2 (wdI x 0) (wdI x 1) (wdI x 2) (wdI x 3)
      have i3 := ix3 (wdI x 0) (wdI x 1) (wdI x 2) (wdI x 3)
      go_loopw [15] (fun i wi => ∃ (m : Nat) (a b c d : Int), i = .int .i64 m ∧ mixed u (u ||| x) m a b c d ∧ Hid (Blk wi w.heap.size 29 zcs) ∧ Hid (Blk wi (w.heap.size + 1) 29 #[.int .u64 a, .int .u64 b, .int .u64 c, .int .u64 d]) ∧ Hid (Below w.heap.size w wi))
        (fun i _ => 4 - (intOf i).toNat)
      case atStart => exact ⟨0, _, _, _, _, rfl, .inl ⟨rfl, rfl, rfl, rfl, rfl⟩, hZ1, hU1, hB1⟩
      case round =>
        clear hU1 hZ1 hB1 hwo
        obtain ⟨m, a, b', c, d, rfl, hk', hZ, hU, hB⟩ := hrel
        rcases hk' with ⟨rfl, rfl, rfl, rfl, rfl⟩ | ⟨rfl, rfl, rfl, rfl, rfl⟩ | ⟨rfl, rfl, rfl, rfl, rfl⟩ | ⟨rfl, rfl, rfl, rfl, rfl⟩ | ⟨rfl, rfl, rfl, rfl, rfl⟩
        · have c0 := hU.out.cell 0
          have f0 := hU.out.frozen 0
          simp only [List.getElem?_toArray, List.getElem?_cons_succ, List.getElem?_cons_zero] at c0
          go_wp2
          go_roundw
          case rel => exact ⟨1, _, _, _, _, by go_num, .inr (.inl ⟨rfl, rfl, rfl, rfl, rfl⟩), hZ.out.other (by simp) _, Lib.hid (by simpa using hU.out.set 0 (.int .u64 (wdI (u ||| x) 0))), hB.out.setCell (p := ⟨w.heap.size + 1, _, none⟩) (by simp) _⟩
          case measure => simp [intOf]
        · have c1 := hU.out.cell 1
          have f1 := hU.out.frozen 1
          simp only [List.getElem?_toArray, List.getElem?_cons_succ, List.getElem?_cons_zero] at c1
          go_wp2
          go_roundw
          case rel => exact ⟨2, _, _, _, _, by go_num, .inr (.inr (.inl ⟨rfl, rfl, rfl, rfl, rfl⟩)), hZ.out.other (by simp) _, Lib.hid (by simpa using hU.out.set 1 (.int .u64 (wdI (u ||| x) 1))), hB.out.setCell (p := ⟨w.heap.size + 1, _, none⟩) (by simp) _⟩
          case measure => simp [intOf]
        · have c2 := hU.out.cell 2
          have f2 := hU.out.frozen 2
          simp only [List.getElem?_toArray, List.getElem?_cons_succ, List.getElem?_cons_zero] at c2
          go_wp2
          go_roundw
          case rel => exact ⟨3, _, _, _, _, by go_num, .inr (.inr (.inr (.inl ⟨rfl, rfl, rfl, rfl, rfl⟩))), hZ.out.other (by simp) _, Lib.hid (by simpa using hU.out.set 2 (.int .u64 (wdI (u ||| x) 2))), hB.out.setCell (p := ⟨w.heap.size + 1, _, none⟩) (by simp) _⟩
          case measure => simp [intOf]
        · have c3 := hU.out.cell 3
          have f3 := hU.out.frozen 3
          simp only [List.getElem?_toArray, List.getElem?_cons_succ, List.getElem?_cons_zero] at c3
          go_wp2
          go_roundw
          case rel => exact ⟨4, _, _, _, _, by go_num, .inr (.inr (.inr (.inr ⟨rfl, rfl, rfl, rfl, rfl⟩))), hZ.out.other (by simp) _, Lib.hid (by simpa using hU.out.set 3 (.int .u64 (wdI (u ||| x) 3))), hB.out.setCell (p := ⟨w.heap.size + 1, _, none⟩) (by simp) _⟩
          case measure => simp [intOf]
        · go_wp2
          go_roundw
          case rel => exact ⟨k + 1, by go_num, by omega, hZ, by rw [HN.out]; exact hU, hB⟩
          case measure => simp [intOf]; omega
    · obtain rfl : k = l.length := by omega
      rw [List.take_length] at hU
      obtain ⟨u, hu⟩ : ∃ u, u = unionL l := ⟨_, rfl⟩
      rw [← hu] at hU
      have HUU := Lib.hid hu
      clear hu
      have c0 : wr.cell? ⟨(w.heap.size + 1), 0, none⟩ = some (.int .u64 (wdI (u) 0)) := Blk.cell hU.out 0
      have c1 : wr.cell? ⟨(w.heap.size + 1), 1, none⟩ = some (.int .u64 (wdI (u) 1)) := Blk.cell hU.out 1
      have c2 : wr.cell? ⟨(w.heap.size + 1), 2, none⟩ = some (.int .u64 (wdI (u) 2)) := Blk.cell hU.out 2
      have c3 : wr.cell? ⟨(w.heap.size + 1), 3, none⟩ = some (.int .u64 (wdI (u) 3)) := Blk.cell hU.out 3
      have z0 : wr.cell? ⟨w.heap.size, 0, none⟩ = some (.int .u64 0) := Blk.cell hZ.out 0
      have z1 : wr.cell? ⟨w.heap.size, 1, none⟩ = some (.int .u64 0) := Blk.cell hZ.out 1
      have z2 : wr.cell? ⟨w.heap.size, 2, none⟩ = some (.int .u64 0) := Blk.cell hZ.out 2
      have z3 : wr.cell? ⟨w.heap.size, 3, none⟩ = some (.int .u64 0) := Blk.cell hZ.out 3
      have fz : ∀ i, wr.frozen? ⟨w.heap.size, i, none⟩ = false := Blk.frozen hZ.out
      go_wp2
      have y := Blk.set4 hZ.out (.int .u64 (wdI (u) 0)) (.int .u64 (wdI (u) 1)) (.int .u64 (wdI (u) 2)) (.int .u64 (wdI (u) 3))
      have y0 := y.cell 0
      have y1 := y.cell 1
      have y2 := y.cell 2
      have y3 := y.cell 3
      refine bodyPost_ret (v := .agg #[.int .u64 (wdI u 0), .int .u64 (wdI u 1), .int .u64 (wdI u 2), .int .u64 (wdI u 3)]) (by simp [results, Tryd.results20, go_sem, y0, y1, y2, y3]) rfl ⟨by rw [← HUU.out]; rfl, ?_⟩
      exact below_set4 hB.out (Nat.le_refl _) _ _ _ _
end Go.Proofs.YtegmoeeeomjkgaaDoor
end
section
namespace Go.Proofs.YtegmoeeeomjkgaaDoor
open Go Go.RowKit

/-- Bytes as they lie behind a slice. -/
def RowY (w : World) (a : Option Addr) (l : List Nat) : Prop :=
  ∀ (i : Nat) (x : Nat), l[i]? = some x → ∃ b off, a = some ⟨b, off, none⟩ ∧ w.cell? ⟨b, off + i, none⟩ = some (.int .u8 x)
def SmallY (l : List Nat) : Prop := ∀ x ∈ l, x < 256
theorem RowY.below {w w' : World} {a : Option Addr} {l : List Nat} {n : Nat} (h : RowY w a l) (hB : Below n w w') (hn : w.heap.size ≤ n) : RowY w' a l := by
  intro i x hx
  obtain ⟨b, off, e, h1⟩ := h i x hx
  have := lt_of_cell h1
  exact ⟨b, off, e, (hB.cell (p := ⟨b, _, none⟩) (show b < n by omega)).trans h1⟩

/-- The set of just these bytes. -/
def ofL (l : List Nat) : BS := l.foldl withB 0#256
theorem ofL_snoc (l : List Nat) (x : Nat) : ofL (l ++ [x]) = withB (ofL l) x := by simp [ofL, List.foldl_append]

set_option maxRecDepth 100000 in
set_option maxHeartbeats 4000000 in
theorem of_any (a : Option Addr) (cap : Nat) (l : List Nat) (w : World) (hd : RowY w a l) (hs : SmallY l) (hl : l.length ≤ 281474976710656) :
    Calls Tryd.prog 13 #[.slice a l.length cap] w fun e w' => e = .returned (vset (ofL l)) ∧ Below w.heap.size w w' := by
  have HD := Lib.hid hd
  clear hd
  go_enter Tryd.func13, Tryd.ntmps13
  go_wp2
  go_loopw [8] (fun i wr => ∃ (k : Nat), i = .int .i64 k ∧ k ≤ l.length ∧ Hid (Blk wr w.heap.size 29 zcs) ∧ Hid (Blk wr (w.heap.size + 1) 29 (cset (ofL (l.take k)))) ∧ Hid (Below w.heap.size w wr))
    (fun i _ => l.length - (intOf i).toNat)
  case atStart =>
    refine ⟨0, rfl, Nat.zero_le _, ?_, ?_, ?_⟩
    · exact (Blk.new w 29 zcs).alloc _
    · have h := Blk.new (w.alloc (.cells #[.int .u64 0, .int .u64 0, .int .u64 0, .int .u64 0] 29)) 29 #[.int .u64 0, .int .u64 0, .int .u64 0, .int .u64 0]
      rw [World.size_alloc] at h
      rw [List.take_zero, show ofL [] = 0#256 from rfl, cset_zero]
      exact h
    · exact ((Below.refl _ w).alloc (Nat.le_refl _) _).alloc (by simp) _
  case round =>
    obtain ⟨k, rfl, hk, hZ, hU, hB⟩ := hrel
    by_cases hlt : k < l.length
    · have HX : Hid (l[k]? = some l[k]) := Lib.hid (List.getElem?_eq_getElem hlt)
      have x1 := hs l[k] (List.getElem_mem hlt)
      obtain ⟨x, hx⟩ : ∃ x, l[k] = x := ⟨_, rfl⟩
      rw [hx] at HX x1
      obtain ⟨u, hu⟩ : ∃ u, u = ofL (l.take k) := ⟨_, rfl⟩
      rw [← hu] at hU
      have HN : Hid (ofL (l.take (k + 1)) = withB u x) := by
        refine Lib.hid ?_
        rw [List.take_add_one, HX.out, hu]
        exact ofL_snoc _ _
      clear hx hu
      obtain ⟨b, off, rfl, e0⟩ := HD.out k _ HX.out
      have bl : b < w.heap.size := lt_of_cell e0
      have r0 : wr.cell? ⟨b, off + k, none⟩ = some (.int .u8 x) := (hB.out.cell (p := ⟨b, _, none⟩) bl).trans e0
      have c0 : wr.cell? ⟨w.heap.size + 1, 0, none⟩ = some (.int .u64 (wdI u 0)) := hU.out.cell 0
      have c1 : wr.cell? ⟨w.heap.size + 1, 1, none⟩ = some (.int .u64 (wdI u 1)) := hU.out.cell 1
      have c2 : wr.cell? ⟨w.heap.size + 1, 2, none⟩ = some (.int .u64 (wdI u 2)) := hU.out.cell 2
      have c3 : wr.cell? ⟨w.heap.size + 1, 3, none⟩ = some (.int .u64 (wdI u 3)) := hU.out.cell 3
      have HW := Lib.hid (with_any u x x1)
      have hlt2 : w.heap.size + 1 < wr.heap.size := hU.out.lt
      clear e0
      go_wp2_with fail
      refine (HW.out _).mono ?_
      rintro e w1 ⟨rfl, hB1⟩
      have hZ1 := Lib.hid (hZ.out.below hB1 (by omega))
      have hU1 := Lib.hid (hU.out.below hB1 (by omega))
      have hBB := Lib.hid (hB.out.trans (hB1.mono (by have := hB.out.size; omega)))
      clear hZ hU hB hB1 c0 c1 c2 c3 HW r0
      have c0 : w1.cell? ⟨w.heap.size + 1, 0, none⟩ = some (.int .u64 (wdI u 0)) := hU1.out.cell 0
      have c1 : w1.cell? ⟨w.heap.size + 1, 1, none⟩ = some (.int .u64 (wdI u 1)) := hU1.out.cell 1
      have c2 : w1.cell? ⟨w.heap.size + 1, 2, none⟩ = some (.int .u64 (wdI u 2)) := hU1.out.cell 2
      have c3 : w1.cell? ⟨w.heap.size + 1, 3, none⟩ = some (.int .u64 (wdI u 3)) := hU1.out.cell 3
      have fz : ∀ i, w1.frozen? ⟨w.heap.size + 1, i, none⟩ = false := hU1.out.frozen
      unfold vset
      go_wp2
      go_roundw
      case rel =>
        refine ⟨k + 1, by go_num, by omega, ?_, ?_, ?_⟩
        · exact (((hZ1.out.other (by simp) _).other (by simp) _).other (by simp) _).other (by simp) _
        · rw [HN.out]; exact hU1.out.set4 _ _ _ _
        · exact below_set4 hBB.out (by omega) _ _ _ _
      case measure => simp [intOf]; omega
    · obtain rfl : k = l.length := by omega
      rw [List.take_length] at hU
      obtain ⟨u, hu⟩ : ∃ u, u = ofL l := ⟨_, rfl⟩
      rw [← hu] at hU
      have c0 : wr.cell? ⟨w.heap.size + 1, 0, none⟩ = some (.int .u64 (wdI u 0)) := Blk.cell hU.out 0
      have c1 : wr.cell? ⟨w.heap.size + 1, 1, none⟩ = some (.int .u64 (wdI u 1)) := Blk.cell hU.out 1
      have c2 : wr.cell? ⟨w.heap.size + 1, 2, none⟩ = some (.int .u64 (wdI u 2)) := Blk.cell hU.out 2
      have c3 : wr.cell? ⟨w.heap.size + 1, 3, none⟩ = some (.int .u64 (wdI u 3)) := Blk.cell hU.out 3
      have z0 : wr.cell? ⟨w.heap.size, 0, none⟩ = some (.int .u64 0) := Blk.cell hZ.out 0
      have z1 : wr.cell? ⟨w.heap.size, 1, none⟩ = some (.int .u64 0) := Blk.cell hZ.out 1
      have z2 : wr.cell? ⟨w.heap.size, 2, none⟩ = some (.int .u64 0) := Blk.cell hZ.out 2
      have z3 : wr.cell? ⟨w.heap.size, 3, none⟩ = some (.int .u64 0) := Blk.cell hZ.out 3
      have fz : ∀ i, wr.frozen? ⟨w.heap.size, i, none⟩ = false := Blk.frozen hZ.out
      have HU := Lib.hid hu
      clear hu
      go_wp2
      have y := Blk.set4 hZ.out (.int .u64 (wdI u 0)) (.int .u64 (wdI u 1)) (.int .u64 (wdI u 2)) (.int .u64 (wdI u 3))
      have y0 := y.cell 0
      have y1 := y.cell 1
      have y2 := y.cell 2
      have y3 := y.cell 3
      refine bodyPost_ret (v := .agg #[.int .u64 (wdI u 0), .int .u64 (wdI u 1), .int .u64 (wdI u 2), .int .u64 (wdI u 3)]) (by simp [results, Tryd.results13, go_sem, y0, y1, y2, y3]) rfl ⟨by rw [← HU.out]; rfl, ?_⟩
      exact below_set4 hB.out (Nat.le_refl _) _ _ _ _

end Go.Proofs.YtegmoeeeomjkgaaDoor
end
section
namespace Go.Proofs.YtegmoeeeomjkgaaDoor
open Go Go.RowKit

set_option maxRecDepth 100000 in
set_option maxHeartbeats 1000000 in
theorem rof_any (a : Option Addr) (cap : Nat) (l : List Nat) (w : World) (hd : RowY w a l) (hs : SmallY l) (hl : l.length ≤ 281474976710656) :
    Calls Tryd.prog 15 #[.slice a l.length cap] w fun e w' => e = .returned (vset (ofL l)) ∧ Below w.heap.size w w' := by
  have HD := Lib.hid hd
  clear hd
  go_enter Tryd.func15, Tryd.ntmps15
  go_wp2
  go_loopw [4] (fun i wr => ∃ (k : Nat), i = .int .i64 k ∧ k ≤ l.length ∧ Hid (Blk wr w.heap.size 29 zcs) ∧ Hid (Blk wr (w.heap.size + 1) 29 (cset (ofL (l.take k)))) ∧ Hid (Below w.heap.size w wr))
    (fun i _ => l.length - (intOf i).toNat)
  case atStart =>
    refine ⟨0, rfl, Nat.zero_le _, ?_, ?_, ?_⟩
    · exact (Blk.new w 29 zcs).alloc _
    · have h := Blk.new (w.alloc (.cells #[.int .u64 0, .int .u64 0, .int .u64 0, .int .u64 0] 29)) 29 #[.int .u64 0, .int .u64 0, .int .u64 0, .int .u64 0]
      rw [World.size_alloc] at h
      rw [List.take_zero, show ofL [] = 0#256 from rfl, cset_zero]
      exact h
    · exact ((Below.refl _ w).alloc (Nat.le_refl _) _).alloc (by simp) _
  case round =>
    obtain ⟨k, rfl, hk, hZ, hU, hB⟩ := hrel
    by_cases hlt : k < l.length
    · have HX : Hid (l[k]? = some l[k]) := Lib.hid (List.getElem?_eq_getElem hlt)
      have x1 := hs l[k] (List.getElem_mem hlt)
      obtain ⟨x, hx⟩ : ∃ x, l[k] = x := ⟨_, rfl⟩
      rw [hx] at HX x1
      obtain ⟨u, hu⟩ : ∃ u, u = ofL (l.take k) := ⟨_, rfl⟩
      rw [← hu] at hU
      have HN : Hid (ofL (l.take (k + 1)) = withB u x) := by
        refine Lib.hid ?_
        rw [List.take_add_one, HX.out, hu]
        exact ofL_snoc _ _
      clear hx hu
      obtain ⟨b, off, rfl, e0⟩ := HD.out k _ HX.out
      have bl : b < w.heap.size := lt_of_cell e0
      have r0 : wr.cell? ⟨b, off + k, none⟩ = some (.int .u8 x) := (hB.out.cell (p := ⟨b, _, none⟩) bl).trans e0
      have c0 : wr.cell? ⟨w.heap.size + 1, 0, none⟩ = some (.int .u64 (wdI u 0)) := hU.out.cell 0
      have c1 : wr.cell? ⟨w.heap.size + 1, 1, none⟩ = some (.int .u64 (wdI u 1)) := hU.out.cell 1
      have c2 : wr.cell? ⟨w.heap.size + 1, 2, none⟩ = some (.int .u64 (wdI u 2)) := hU.out.cell 2
      have c3 : wr.cell? ⟨w.heap.size + 1, 3, none⟩ = some (.int .u64 (wdI u 3)) := hU.out.cell 3
      have HW0 := rwith_any u x x1
      obtain ⟨u2, hu2⟩ : ∃ u2, u2 = withB u x := ⟨_, rfl⟩
      rw [← hu2] at HW0 HN
      clear hu2
      unfold vset at HW0
      have HW := fun w' => Lib.hid (HW0 w')
      clear HW0
      have hlt2 : w.heap.size + 1 < wr.heap.size := hU.out.lt
      clear e0
      have hcv : IntKind.i64.wrap (x : Int) = (x : Int) := IntWalk.i64_in _ (by omega)
      have HK : Hid (∀ w', Below wr.drew.heap.size wr.drew w' → Blk w' (w.heap.size + 1) 29 (cset u) ∧ w'.cell? ⟨b, off + k, none⟩ = some (.int .u8 x)) := fun w' hB1 =>
        ⟨Blk.below (Blk.drew hU.out) hB1 hU.out.lt, (hB1.cell (p := ⟨b, off + k, none⟩) (show b < wr.drew.heap.size from Nat.lt_of_lt_of_le bl hB.out.size)).trans r0⟩
      go_wp2
      go_region_with (first | (go_at_call 42; (with_reducible refine (HW _).out.mono ?_); rintro e w' ⟨rfl, hB1⟩; have hU1 := (HK.out w' hB1).1; have e0 := (HK.out w' hB1).2; have d0 : w'.cell? ⟨w.heap.size + 1, 0, none⟩ = some (.int .u64 (wdI u 0)) := hU1.cell 0; have d1 : w'.cell? ⟨w.heap.size + 1, 1, none⟩ = some (.int .u64 (wdI u 1)) := hU1.cell 1; have d2 : w'.cell? ⟨w.heap.size + 1, 2, none⟩ = some (.int .u64 (wdI u 2)) := hU1.cell 2; have d3 : w'.cell? ⟨w.heap.size + 1, 3, none⟩ = some (.int .u64 (wdI u 3)) := hU1.cell 3; have fz : ∀ i, w'.frozen? ⟨w.heap.size + 1, i, none⟩ = false := hU1.frozen))
      all_goals
        have hU2 := Lib.hid hU1
        have hZ2 := Lib.hid (Blk.below (Blk.drew hZ.out) hB1 hZ.out.lt)
        have hB2 := Lib.hid (below_at (hB.out.drew.trans (hB1.mono (show w.heap.size ≤ wr.drew.heap.size from hB.out.size))) (Nat.le_refl _))
        clear hU1 hB1 hU hZ hB
        go_wp2
        go_roundw
        case rel =>
          refine ⟨k + 1, by go_num, by omega, ?_, ?_, ?_⟩
          · exact (((hZ2.out.other (by simp) _).other (by simp) _).other (by simp) _).other (by simp) _
          · rw [HN.out]; exact hU2.out.set4 _ _ _ _
          · exact below_set4 hB2.out (by omega) _ _ _ _
        case measure => simp [intOf]; omega
    · obtain rfl : k = l.length := by omega
      rw [List.take_length] at hU
      obtain ⟨u, hu⟩ : ∃ u, u = ofL l := ⟨_, rfl⟩
      rw [← hu] at hU
      have c0 : wr.cell? ⟨w.heap.size + 1, 0, none⟩ = some (.int .u64 (wdI u 0)) := Blk.cell hU.out 0
      have c1 : wr.cell? ⟨w.heap.size + 1, 1, none⟩ = some (.int .u64 (wdI u 1)) := Blk.cell hU.out 1
      have c2 : wr.cell? ⟨w.heap.size + 1, 2, none⟩ = some (.int .u64 (wdI u 2)) := Blk.cell hU.out 2
      have c3 : wr.cell? ⟨w.heap.size + 1, 3, none⟩ = some (.int .u64 (wdI u 3)) := Blk.cell hU.out 3
      have z0 : wr.cell? ⟨w.heap.size, 0, none⟩ = some (.int .u64 0) := Blk.cell hZ.out 0
      have z1 : wr.cell? ⟨w.heap.size, 1, none⟩ = some (.int .u64 0) := Blk.cell hZ.out 1
      have z2 : wr.cell? ⟨w.heap.size, 2, none⟩ = some (.int .u64 0) := Blk.cell hZ.out 2
      have z3 : wr.cell? ⟨w.heap.size, 3, none⟩ = some (.int .u64 0) := Blk.cell hZ.out 3
      have fz : ∀ i, wr.frozen? ⟨w.heap.size, i, none⟩ = false := Blk.frozen hZ.out
      have HU := Lib.hid hu
      clear hu
      go_wp2
      have y := Blk.set4 hZ.out (.int .u64 (wdI u 0)) (.int .u64 (wdI u 1)) (.int .u64 (wdI u 2)) (.int .u64 (wdI u 3))
      have y0 := y.cell 0
      have y1 := y.cell 1
      have y2 := y.cell 2
      have y3 := y.cell 3
      refine bodyPost_ret (v := .agg #[.int .u64 (wdI u 0), .int .u64 (wdI u 1), .int .u64 (wdI u 2), .int .u64 (wdI u 3)]) (by simp [results, Tryd.results15, go_sem, y0, y1, y2, y3]) rfl ⟨by rw [← HU.out]; rfl, ?_⟩
      exact below_set4 hB.out (Nat.le_refl _) _ _ _ _
end Go.Proofs.YtegmoeeeomjkgaaDoor
end
section
namespace Go.Proofs.YtegmoeeeomjkgaaDoor
open Go Go.RowKit

/-- The bytes below k of which f says so. -/
def lowB (f : Nat → Bool) : Nat → BS
  | 0 => 0#256
  | k + 1 => if f k then withB (lowB f k) k else lowB f k

theorem lowB_bit (f : Nat → Bool) (k j : Nat) (hk : k ≤ 256) : (lowB f k).getLsbD j = (decide (j < k) && f j) := by
  induction k with
  | zero => simp [lowB]
  | succ k ih =>
    have ih := ih (by omega)
    unfold lowB
    by_cases e : j = k
    · subst e
      cases hf : f j with
      | true => simp only [if_true]; rw [withB_bit _ _ _ (by omega)]; simp
      | false => simp only [Bool.false_eq_true, if_false]; rw [ih]; simp
    · have h1 : (j < k + 1) ↔ (j < k) := by omega
      cases hf : f k with
      | true => simp only [if_true]; rw [withB_bit _ _ _ (by omega), ih]; simp [h1, show ¬ k = j from fun h => e h.symm]
      | false => simp only [Bool.false_eq_true, if_false]; rw [ih]; simp [h1]

theorem lowB_eq (f : Nat → Bool) (s : BS) (h : ∀ j, j < 256 → f j = s.getLsbD j) : lowB f 256 = s := by
  apply BitVec.eq_of_getLsbD_eq; intro j hj
  rw [lowB_bit _ _ _ (Nat.le_refl _), h j hj]; simp [hj]

set_option maxRecDepth 100000 in
set_option maxHeartbeats 4000000 in
theorem rnot_any (s : BS) (w : World) : Calls Tryd.prog 19 #[vset s] w fun e w' => e = .returned (vset (~~~s)) ∧ Below w.heap.size w w' := by
  have HF : Hid (lowB (fun j => !s.getLsbD j) 256 = ~~~s) := lowB_eq _ _ fun j hj => by rw [BitVec.getLsbD_not]; simp [hj]
  obtain ⟨ns, hns⟩ : ∃ ns, ns = ~~~s := ⟨_, rfl⟩
  rw [← hns] at HF ⊢
  clear hns
  have HL : Hid (∀ k, lowB (fun j => !s.getLsbD j) (k + 1) = if (!s.getLsbD k) = true then withB (lowB (fun j => !s.getLsbD j) k) k else lowB (fun j => !s.getLsbD j) k) := fun k => rfl
  have HZ0 : Hid (lowB (fun j => !s.getLsbD j) 0 = 0#256) := Lib.hid rfl
  generalize lowB (fun j => !s.getLsbD j) = L at HF HL HZ0
  unfold vset
  go_enter Tryd.func19, Tryd.ntmps19
  go_wp2
  go_loopw [4] (fun i wr => ∃ (k : Nat), i = .int .i64 k ∧ k ≤ 256 ∧ Hid (Blk wr w.heap.size 29 (cset s)) ∧ Hid (Blk wr (w.heap.size + 1) 29 zcs) ∧ Hid (Blk wr (w.heap.size + 1 + 1) 29 (cset (L k))) ∧ Hid (Below w.heap.size w wr))
    (fun i _ => 256 - (intOf i).toNat)
  case atStart =>
    refine ⟨0, rfl, Nat.zero_le _, ?_, ?_, ?_, ?_⟩
    · exact ((Blk.new w 29 _).alloc _).alloc _
    · have h := (Blk.new (w.alloc (.cells (cset s) 29)) 29 zcs).alloc (.cells zcs 29)
      rw [World.size_alloc] at h
      exact h
    · have h := Blk.new ((w.alloc (.cells (cset s) 29)).alloc (.cells zcs 29)) 29 zcs
      rw [World.size_alloc, World.size_alloc] at h
      rw [HZ0.out, cset_zero]
      exact h
    · exact (((Below.refl _ w).alloc (Nat.le_refl _) _).alloc (by simp) _).alloc (by simp; omega) _
  case round =>
    obtain ⟨k, rfl, hk, hA, hZ, hU, hB⟩ := hrel
    by_cases hlt : k < 256
    · have HN := Lib.hid (HL.out k)
      have HH := fun w' => Lib.hid (rhas_any s k hlt w')
      have HW := fun w' => Lib.hid (rwith_any (L k) k hlt w')
      obtain ⟨u, hu⟩ : ∃ u, u = L k := ⟨_, rfl⟩
      rw [← hu] at HN HW hU
      clear hu
      have c0 : wr.cell? ⟨w.heap.size, 0, none⟩ = some (.int .u64 (wdI s 0)) := hA.out.cell 0
      have c1 : wr.cell? ⟨w.heap.size, 1, none⟩ = some (.int .u64 (wdI s 1)) := hA.out.cell 1
      have c2 : wr.cell? ⟨w.heap.size, 2, none⟩ = some (.int .u64 (wdI s 2)) := hA.out.cell 2
      have c3 : wr.cell? ⟨w.heap.size, 3, none⟩ = some (.int .u64 (wdI s 3)) := hA.out.cell 3
      have hlt2 : w.heap.size + 1 + 1 < wr.heap.size := hU.out.lt
      cases hbit : s.getLsbD k with
      | true =>
        rw [hbit] at HN HH
        have HN2 : Hid (L (k + 1) = u) := Lib.hid HN.out
        clear hbit HN HW
        go_wp2_with fail
        refine (HH _).out.mono ?_
        rintro e w1 ⟨rfl, hB1⟩
        have hA1 := Lib.hid (hA.out.below hB1 (by omega))
        have hZ1 := Lib.hid (hZ.out.below hB1 (by omega))
        have hU1 := Lib.hid (hU.out.below hB1 (by omega))
        have hBB := Lib.hid (hB.out.trans (hB1.mono hB.out.size))
        clear hA hZ hU hB hB1 c0 c1 c2 c3 HH
        go_wp2
        go_roundw
        case rel =>
          refine ⟨k + 1, by go_num, by omega, hA1, hZ1, ?_, hBB⟩
          rw [HN2.out]; exact hU1
        case measure => simp [intOf]; omega
      | false =>
        rw [hbit] at HN HH
        have HN2 : Hid (L (k + 1) = withB u k) := Lib.hid HN.out
        clear hbit HN
        obtain ⟨u2, hu2⟩ : ∃ u2, u2 = withB u k := ⟨_, rfl⟩
        rw [← hu2] at HW HN2
        clear hu2
        go_wp2_with fail
        refine (HH _).out.mono ?_
        rintro e w1 ⟨rfl, hB1⟩
        have hA1 := Lib.hid (hA.out.below hB1 (by omega))
        have hZ1 := Lib.hid (hZ.out.below hB1 (by omega))
        have hU1 := Lib.hid (hU.out.below hB1 (by omega))
        have hBB := Lib.hid (hB.out.trans (hB1.mono hB.out.size))
        clear hA hZ hU hB hB1 c0 c1 c2 c3 HH
        have c0 : w1.cell? ⟨w.heap.size + 1 + 1, 0, none⟩ = some (.int .u64 (wdI u 0)) := hU1.out.cell 0
        have c1 : w1.cell? ⟨w.heap.size + 1 + 1, 1, none⟩ = some (.int .u64 (wdI u 1)) := hU1.out.cell 1
        have c2 : w1.cell? ⟨w.heap.size + 1 + 1, 2, none⟩ = some (.int .u64 (wdI u 2)) := hU1.out.cell 2
        have c3 : w1.cell? ⟨w.heap.size + 1 + 1, 3, none⟩ = some (.int .u64 (wdI u 3)) := hU1.out.cell 3
        have hlt3 : w.heap.size + 1 + 1 < w1.heap.size := hU1.out.lt
        go_wp2_with fail
        refine (HW _).out.mono ?_
        rintro e w2 ⟨rfl, hB2⟩
        have hA2 := Lib.hid (hA1.out.below hB2 (by omega))
        have hZ2 := Lib.hid (hZ1.out.below hB2 (by omega))
        have hU2 := Lib.hid (hU1.out.below hB2 (by omega))
        have hBC := Lib.hid (hBB.out.trans (hB2.mono hBB.out.size))
        clear hA1 hZ1 hU1 hBB hB2 c0 c1 c2 c3 HW
        have c0 : w2.cell? ⟨w.heap.size + 1 + 1, 0, none⟩ = some (.int .u64 (wdI u 0)) := hU2.out.cell 0
        have c1 : w2.cell? ⟨w.heap.size + 1 + 1, 1, none⟩ = some (.int .u64 (wdI u 1)) := hU2.out.cell 1
        have c2 : w2.cell? ⟨w.heap.size + 1 + 1, 2, none⟩ = some (.int .u64 (wdI u 2)) := hU2.out.cell 2
        have c3 : w2.cell? ⟨w.heap.size + 1 + 1, 3, none⟩ = some (.int .u64 (wdI u 3)) := hU2.out.cell 3
        have fz : ∀ i, w2.frozen? ⟨w.heap.size + 1 + 1, i, none⟩ = false := hU2.out.frozen
        unfold vset
        go_wp2
        go_roundw
        case rel =>
          refine ⟨k + 1, by go_num, by omega, ?_, ?_, ?_, ?_⟩
          · exact (((hA2.out.other (by simp; omega) _).other (by simp; omega) _).other (by simp; omega) _).other (by simp; omega) _
          · exact (((hZ2.out.other (by simp) _).other (by simp) _).other (by simp) _).other (by simp) _
          · rw [HN2.out]; exact hU2.out.set4 _ _ _ _
          · exact below_set4 hBC.out (by omega) _ _ _ _
        case measure => simp [intOf]; omega
    · obtain rfl : k = 256 := by omega
      rw [HF.out] at hU
      have c0 : wr.cell? ⟨w.heap.size + 1 + 1, 0, none⟩ = some (.int .u64 (wdI ns 0)) := Blk.cell hU.out 0
      have c1 : wr.cell? ⟨w.heap.size + 1 + 1, 1, none⟩ = some (.int .u64 (wdI ns 1)) := Blk.cell hU.out 1
      have c2 : wr.cell? ⟨w.heap.size + 1 + 1, 2, none⟩ = some (.int .u64 (wdI ns 2)) := Blk.cell hU.out 2
      have c3 : wr.cell? ⟨w.heap.size + 1 + 1, 3, none⟩ = some (.int .u64 (wdI ns 3)) := Blk.cell hU.out 3
      have z0 : wr.cell? ⟨w.heap.size + 1, 0, none⟩ = some (.int .u64 0) := Blk.cell hZ.out 0
      have z1 : wr.cell? ⟨w.heap.size + 1, 1, none⟩ = some (.int .u64 0) := Blk.cell hZ.out 1
      have z2 : wr.cell? ⟨w.heap.size + 1, 2, none⟩ = some (.int .u64 0) := Blk.cell hZ.out 2
      have z3 : wr.cell? ⟨w.heap.size + 1, 3, none⟩ = some (.int .u64 0) := Blk.cell hZ.out 3
      have fz : ∀ i, wr.frozen? ⟨w.heap.size + 1, i, none⟩ = false := Blk.frozen hZ.out
      go_wp2
      have y := Blk.set4 hZ.out (.int .u64 (wdI ns 0)) (.int .u64 (wdI ns 1)) (.int .u64 (wdI ns 2)) (.int .u64 (wdI ns 3))
      have y0 := y.cell 0
      have y1 := y.cell 1
      have y2 := y.cell 2
      have y3 := y.cell 3
      refine bodyPost_ret (v := .agg #[.int .u64 (wdI ns 0), .int .u64 (wdI ns 1), .int .u64 (wdI ns 2), .int .u64 (wdI ns 3)]) (by simp [results, Tryd.results19, go_sem, y0, y1, y2, y3]) rfl ⟨rfl, ?_⟩
      exact below_set4 hB.out (by omega) _ _ _ _
end Go.Proofs.YtegmoeeeomjkgaaDoor
end
section
namespace Go.Proofs.YtegmoeeeomjkgaaDoor
open Go Go.RowKit

set_option maxRecDepth 100000 in
set_option maxHeartbeats 8000000 in
theorem rmake_any (a : Option Addr) (cap : Nat) (rs : List (Nat × Nat)) (w : World) (hd : RowR w a rs) (hs : SmallR rs) (hl : rs.length ≤ 281474976710656) :
    Calls Tryd.prog 12 #[.slice a rs.length cap] w fun e w' => e = .returned (makeV rs) ∧ Below w.heap.size w w' := by
  have HD := Lib.hid hd
  have HZ := Lib.hid vset_zero
  clear hd
  go_enter Tryd.func12, Tryd.ntmps12
  go_wp2
  go_loopw [5] (fun i wr => ∃ (k : Nat) (u : BS), i = .int .i64 k ∧ k ≤ rs.length ∧ Hid (makeR 0#256 (rs.take k) = some u) ∧ Hid (Blk wr w.heap.size 29 zcs) ∧ Hid (Blk wr (w.heap.size + 1) 29 (cset u)) ∧ Hid (Below w.heap.size w wr))
    (fun i _ => rs.length - (intOf i).toNat)
  case atStart =>
    refine ⟨0, 0#256, rfl, Nat.zero_le _, rfl, ?_, ?_, ?_⟩
    · exact (Blk.new w 29 zcs).alloc _
    · have h := Blk.new (w.alloc (.cells #[.int .u64 0, .int .u64 0, .int .u64 0, .int .u64 0] 29)) 29 #[.int .u64 0, .int .u64 0, .int .u64 0, .int .u64 0]
      rw [World.size_alloc] at h
      rw [cset_zero]
      exact h
    · exact ((Below.refl _ w).alloc (Nat.le_refl _) _).alloc (by simp) _
  case round =>
    obtain ⟨k, u, rfl, hk, hm, hZ, hU, hB⟩ := hrel
    by_cases hlt : k < rs.length
    · have HX : Hid (rs[k]? = some rs[k]) := Lib.hid (List.getElem?_eq_getElem hlt)
      obtain ⟨x1, x2⟩ := hs rs[k] (List.getElem_mem hlt)
      obtain ⟨x, hx⟩ : ∃ x, rs[k] = x := ⟨_, rfl⟩
      rw [hx] at HX x1 x2
      have HMs : Hid (makeR 0#256 (rs.take (k + 1)) = if x.2 < x.1 then none else some (addR u x)) := by
        refine Lib.hid ?_
        rw [List.take_add_one, HX.out]; exact makeR_snoc _ _ _ _ hm.out
      clear hx
      obtain ⟨f, t⟩ := x
      dsimp only at x1 x2
      obtain ⟨b, off, rfl, e1, e2⟩ := HD.out k _ HX.out
      have bl : b < w.heap.size := lt_of_cell e1
      have r1 : wr.cell? ⟨b, off + k * 2, none⟩ = some (.int .u8 f) := (hB.out.cell (p := ⟨b, _, none⟩) bl).trans e1
      have r2 : wr.cell? ⟨b, off + k * 2 + 1, none⟩ = some (.int .u8 t) := (hB.out.cell (p := ⟨b, _, none⟩) bl).trans e2
      by_cases hft : t < f
      · have HV : makeV rs = .tuple #[.agg #[.int .u64 0, .int .u64 0, .int .u64 0, .int .u64 0], .int .i64 4] := by
          have h1 := HMs.out
          rw [if_pos hft] at h1
          have h2 := makeR_none _ _ (rs.drop (k + 1)) h1
          rw [List.take_append_drop] at h2
          unfold makeV; rw [h2, HZ.out]
        have HVV := Lib.hid HV
        clear HV
        have z0 : wr.cell? ⟨w.heap.size, 0, none⟩ = some (.int .u64 0) := Blk.cell hZ.out 0
        have z1 : wr.cell? ⟨w.heap.size, 1, none⟩ = some (.int .u64 0) := Blk.cell hZ.out 1
        have z2 : wr.cell? ⟨w.heap.size, 2, none⟩ = some (.int .u64 0) := Blk.cell hZ.out 2
        have z3 : wr.cell? ⟨w.heap.size, 3, none⟩ = some (.int .u64 0) := Blk.cell hZ.out 3
        have fz : ∀ i, wr.frozen? ⟨w.heap.size, i, none⟩ = false := Blk.frozen hZ.out
        go_wp2
        go_region
        go_wp2
        have y := Blk.set4 hZ.out (.int .u64 0) (.int .u64 0) (.int .u64 0) (.int .u64 0)
        have y0 := y.cell 0
        have y1 := y.cell 1
        have y2 := y.cell 2
        have y3 := y.cell 3
        refine bodyPost_ret (v := .tuple #[.agg #[.int .u64 0, .int .u64 0, .int .u64 0, .int .u64 0], .int .i64 4]) (by simp [results, Tryd.results12, go_sem, y0, y1, y2, y3]) rfl ⟨by rw [HVV.out], ?_⟩
        first | exact below_set4 hB.out.drew (Nat.le_refl _) _ _ _ _ | exact (below_set4 hB.out (Nat.le_refl _) _ _ _ _).drew
      · have hHR : Hid (∀ n, t + 1 - f = n → addN u f n = addR u (f, t)) := fun n h => by subst h; rfl
        have HM2 : Hid (makeR 0#256 (rs.take (k + 1)) = some (addR u (f, t))) := Lib.hid (by rw [HMs.out, if_neg hft])
        go_wp2
        go_region
        go_wp2
        have hZd : Hid (Blk wr.drew w.heap.size 29 zcs) := hZ.out.drew
        have hUd : Hid (Blk wr.drew (w.heap.size + 1) 29 (cset u)) := hU.out.drew
        have hBd : Hid (Below w.heap.size w wr.drew) := hB.out.drew
        obtain ⟨wo, hwo⟩ : ∃ wo : World, wo = wr.drew := ⟨_, rfl⟩
        rw [← hwo] at hZd hUd hBd ⊢
        clear hwo hZ hU hB r1 r2 hm HMs
        go_loopw [6] (fun i wi => ∃ b n : Nat, i = .int .i64 b ∧ Hid (b = f + n) ∧ b ≤ 256 ∧ Hid (b ≤ t + 1 ∨ n = 0) ∧ Hid (Blk wi w.heap.size 29 zcs) ∧ Hid (Blk wi (w.heap.size + 1) 29 (cset (addN u f n))) ∧ Hid (Below w.heap.size w wi))
          (fun i _ => 300 - (intOf i).toNat)
        case atStart => exact ⟨f, 0, rfl, rfl, by omega, .inr rfl, hZd, hUd, hBd⟩
        case round =>
          clear hZd hUd hBd
          obtain ⟨c, n, rfl, hb, hb2, hn, hZ, hU, hB⟩ := hrel
          have r1 : wr.cell? ⟨b, off + k * 2, none⟩ = some (.int .u8 f) := (hB.out.cell (p := ⟨b, _, none⟩) bl).trans e1
          have r2 : wr.cell? ⟨b, off + k * 2 + 1, none⟩ = some (.int .u8 t) := (hB.out.cell (p := ⟨b, _, none⟩) bl).trans e2
          by_cases hle : c ≤ t
          · have hw : c < 256 := by omega
            have HW := Lib.hid (rwith_any (addN u f n) c hw)
            have HN : Hid (withB (addN u f n) c = addN u f (n + 1)) := by rw [hb.out]; rfl
            obtain ⟨un, hun⟩ : ∃ un, un = addN u f n := ⟨_, rfl⟩
            rw [← hun] at HW HN hU
            clear hun
            rw [HN.out] at HW
            obtain ⟨um, hum⟩ : ∃ um, um = addN u f (n + 1) := ⟨_, rfl⟩
            rw [← hum] at HW
            have HUM := Lib.hid hum
            clear hum HN
            have c0 : wr.cell? ⟨w.heap.size + 1, 0, none⟩ = some (.int .u64 (wdI un 0)) := hU.out.cell 0
            have c1 : wr.cell? ⟨w.heap.size + 1, 1, none⟩ = some (.int .u64 (wdI un 1)) := hU.out.cell 1
            have c2 : wr.cell? ⟨w.heap.size + 1, 2, none⟩ = some (.int .u64 (wdI un 2)) := hU.out.cell 2
            have c3 : wr.cell? ⟨w.heap.size + 1, 3, none⟩ = some (.int .u64 (wdI un 3)) := hU.out.cell 3
            have hlt2 : w.heap.size + 1 < wr.heap.size := hU.out.lt
            go_wp2_with fail
            refine (HW.out wr).mono ?_
            rintro e w1 ⟨rfl, hB1⟩
            have hU1 := Lib.hid (hU.out.below hB1 (by omega))
            have hZ1 := Lib.hid (hZ.out.below hB1 (by omega))
            have hBB := Lib.hid (hB.out.trans (hB1.mono hB.out.size))
            clear hU hZ hB hB1 c0 c1 c2 c3 r1 r2 HW
            have c0 : w1.cell? ⟨w.heap.size + 1, 0, none⟩ = some (.int .u64 (wdI un 0)) := hU1.out.cell 0
            have c1 : w1.cell? ⟨w.heap.size + 1, 1, none⟩ = some (.int .u64 (wdI un 1)) := hU1.out.cell 1
            have c2 : w1.cell? ⟨w.heap.size + 1, 2, none⟩ = some (.int .u64 (wdI un 2)) := hU1.out.cell 2
            have c3 : w1.cell? ⟨w.heap.size + 1, 3, none⟩ = some (.int .u64 (wdI un 3)) := hU1.out.cell 3
            have f0 : ∀ i, w1.frozen? ⟨w.heap.size + 1, i, none⟩ = false := hU1.out.frozen
            unfold vset
            go_wp2
            go_roundw
            case rel =>
              refine ⟨c + 1, n + 1, by go_num, by rw [hb.out]; rfl, by omega, .inl (by omega), ?_, ?_, ?_⟩
              · exact (((hZ1.out.other (by simp) _).other (by simp) _).other (by simp) _).other (by simp) _
              · rw [← HUM.out]; exact hU1.out.set4 _ _ _ _
              · exact below_set4 hBB.out (by omega) _ _ _ _
            case measure => simp [intOf]; omega
          · have hEq : addN u f n = addR u (f, t) := hHR.out n (by have := hb.out; have := hn.out; omega)
            rw [hEq] at hU
            clear hEq
            go_wp2
            go_roundw
            case rel => exact ⟨k + 1, addR u (f, t), by go_num, by omega, HM2, hZ, hU, hB⟩
            case measure => simp [intOf]; omega
    · obtain rfl : k = rs.length := by omega
      have c0 : wr.cell? ⟨(w.heap.size + 1), 0, none⟩ = some (.int .u64 (wdI (u) 0)) := Blk.cell hU.out 0
      have c1 : wr.cell? ⟨(w.heap.size + 1), 1, none⟩ = some (.int .u64 (wdI (u) 1)) := Blk.cell hU.out 1
      have c2 : wr.cell? ⟨(w.heap.size + 1), 2, none⟩ = some (.int .u64 (wdI (u) 2)) := Blk.cell hU.out 2
      have c3 : wr.cell? ⟨(w.heap.size + 1), 3, none⟩ = some (.int .u64 (wdI (u) 3)) := Blk.cell hU.out 3
      have z0 : wr.cell? ⟨w.heap.size, 0, none⟩ = some (.int .u64 0) := Blk.cell hZ.out 0
      have z1 : wr.cell? ⟨w.heap.size, 1, none⟩ = some (.int .u64 0) := Blk.cell hZ.out 1
      have z2 : wr.cell? ⟨w.heap.size, 2, none⟩ = some (.int .u64 0) := Blk.cell hZ.out 2
      have z3 : wr.cell? ⟨w.heap.size, 3, none⟩ = some (.int .u64 0) := Blk.cell hZ.out 3
      have fz : ∀ i, wr.frozen? ⟨w.heap.size, i, none⟩ = false := Blk.frozen hZ.out
      have HV : Hid (makeV rs = .tuple #[.agg #[.int .u64 (wdI u 0), .int .u64 (wdI u 1), .int .u64 (wdI u 2), .int .u64 (wdI u 3)], .int .i64 0]) := by
        have h1 := hm.out
        rw [List.take_length] at h1
        refine Lib.hid ?_
        unfold makeV; rw [h1]; rfl
      go_wp2
      have y := Blk.set4 hZ.out (.int .u64 (wdI (u) 0)) (.int .u64 (wdI (u) 1)) (.int .u64 (wdI (u) 2)) (.int .u64 (wdI (u) 3))
      have y0 := y.cell 0
      have y1 := y.cell 1
      have y2 := y.cell 2
      have y3 := y.cell 3
      refine bodyPost_ret (v := .tuple #[.agg #[.int .u64 (wdI u 0), .int .u64 (wdI u 1), .int .u64 (wdI u 2), .int .u64 (wdI u 3)], .int .i64 0]) (by simp [results, Tryd.results12, go_sem, y0, y1, y2, y3]) rfl ⟨by rw [HV.out], ?_⟩
      exact below_set4 hB.out (Nat.le_refl _) _ _ _ _
end Go.Proofs.YtegmoeeeomjkgaaDoor
end
section
namespace Go.Proofs.YtegmoeeeomjkgaaDoor
open Go Go.RowKit

/-- The places of the bits of a word, rising. -/
def wbits (w : Nat) : List Nat := (List.range' 0 64).filter (fun j => w.testBit j)

theorem filter_at (p q : Nat → Bool) (k n : Nat) (hk : k < n) (h0 : ∀ j, j < k → p j = false) (h1 : p k = true) (hq : ∀ j, q j = (p j && decide (j ≠ k))) :
    (List.range' 0 n).filter p = k :: (List.range' 0 n).filter q := by
  have e : List.range' 0 n = List.range' 0 k ++ (k :: List.range' (k + 1) (n - (k + 1))) := by
    have h2 : List.range' 0 n = List.range' 0 k ++ List.range' k (n - k) := by
      have := List.range'_append_1 (s := 0) (m := k) (n := n - k)
      rw [Nat.zero_add] at this
      rw [this]; congr 1; omega
    rw [h2]
    have h3 : n - k = (n - (k + 1)) + 1 := by omega
    rw [h3, List.range'_succ]
  have p0 : (List.range' 0 k).filter p = [] := by
    rw [List.filter_eq_nil_iff]; intro j hj
    rw [List.mem_range'_1] at hj
    rw [h0 j (by omega)]; simp
  have q0 : (List.range' 0 k).filter q = [] := by
    rw [List.filter_eq_nil_iff]; intro j hj
    rw [List.mem_range'_1] at hj
    rw [hq, h0 j (by omega)]; simp
  have qk : q k = false := by rw [hq]; simp
  rw [e, List.filter_append, List.filter_append, p0, q0, List.filter_cons, List.filter_cons, h1, qk]
  simp only [List.nil_append, if_true, Bool.false_eq_true, if_false]
  congr 1
  apply List.filter_congr
  intro j hj
  rw [List.mem_range'_1] at hj
  rw [hq]
  have : j ≠ k := by omega
  simp [this]

theorem bits_low (w : Nat) (h0 : w ≠ 0) (h : w < 2 ^ 64) : wbits w = Lib.ctz 64 w :: wbits (w &&& (w - 1)) ∧ Lib.ctz 64 w < 64 ∧ w &&& (w - 1) < w := by
  obtain ⟨m, hm, hk⟩ := Lib.ctzFrom_spec 64 w (by omega) h
  have hc : Lib.ctz 64 w = Lib.ctzFrom 64 w := by unfold Lib.ctz; simp [h0]
  rw [hc]
  generalize Lib.ctzFrom 64 w = k at hm hk
  have hp : 0 < 2 ^ k := Nat.two_pow_pos k
  have hw : ∀ j, w.testBit j = (decide (k ≤ j) && (2 * m + 1).testBit (j - k)) := by
    intro j; rw [hm, Nat.testBit_two_pow_mul]
  have hw1 : w - 1 = 2 ^ k * (2 * m) + (2 ^ k - 1) := by
    rw [hm, Nat.mul_add]; omega
  have hv : ∀ j, k ≤ j → (w - 1).testBit j = (2 * m).testBit (j - k) := by
    intro j hj
    rw [hw1, Nat.testBit_two_pow_mul_add _ (by omega)]
    simp [Nat.not_lt.2 hj]
  have hb0 : (2 * m + 1).testBit 0 = true := by simp [Nat.testBit_zero]
  have hb1 : (2 * m).testBit 0 = false := by simp [Nat.testBit_zero]
  have hs : ∀ n, (2 * m + 1).testBit (n + 1) = (2 * m).testBit (n + 1) := by
    intro n
    rw [Nat.testBit_succ, Nat.testBit_succ]
    congr 1; omega
  refine ⟨?_, hk, ?_⟩
  · refine filter_at _ _ k 64 hk ?_ ?_ ?_
    · intro j hj; rw [hw]; simp [Nat.not_le.2 hj]
    · rw [hw]; simp [hb0]
    · intro j
      rw [Nat.testBit_and]
      by_cases h1 : j < k
      · rw [hw]; simp [Nat.not_le.2 h1]
      · by_cases h2 : j = k
        · subst h2; rw [hv j (Nat.le_refl _)]; simp [hb1]
        · rw [hw, hv j (by omega)]
          obtain ⟨n, hn⟩ : ∃ n, j - k = n + 1 := ⟨j - k - 1, by omega⟩
          rw [hn, hs]
          simp [h2]
  · have h1 : w &&& (w - 1) ≤ w - 1 := Nat.and_le_right
    omega

theorem wbits_zero : wbits 0 = [] := by unfold wbits; rw [List.filter_eq_nil_iff]; simp
theorem wbits_lt (w j : Nat) (h : j ∈ wbits w) : j < 64 ∧ w.testBit j = true := by
  unfold wbits at h
  rw [List.mem_filter, List.mem_range'_1] at h
  exact ⟨by omega, h.2⟩

/-- A set's bytes, rising. -/
def bytesL (s : BS) : List Nat := (List.range' 0 256).filter (fun j => s.getLsbD j)

/-- The bytes of one word. -/
def wordL (s : BS) (i : Nat) : List Nat := (wbits (wd s i).toNat).map (64 * i + ·)
/-- Those of the words from the i-th on. -/
def restF (s : BS) : Nat → Nat → List Nat
  | 0, _ => []
  | n + 1, i => wordL s i ++ restF s n (i + 1)
def restW (s : BS) (i : Nat) : List Nat := restF s (4 - i) i
theorem restW_step (s : BS) (i : Nat) (h : i < 4) : restW s i = wordL s i ++ restW s (i + 1) := by
  unfold restW
  rw [show 4 - i = (4 - (i + 1)) + 1 by omega, restF]
theorem restW_end (s : BS) : restW s 4 = [] := rfl

theorem word_part (s : BS) (i : Nat) : (List.range' (64 * i) 64).filter (fun j => s.getLsbD j) = (wbits (wd s i).toNat).map (64 * i + ·) := by
  have e : List.range' (64 * i) 64 = (List.range' 0 64).map (64 * i + ·) := by
    rw [List.map_add_range']; simp
  rw [e, List.filter_map]
  congr 1
  unfold wbits
  apply List.filter_congr
  intro j hj
  rw [List.mem_range'_1] at hj
  show s.getLsbD (64 * i + j) = (wd s i).toNat.testBit j
  rw [← BitVec.getLsbD, wd_bit]
  simp [show j < 64 by omega]

theorem bytesL_words (s : BS) : bytesL s = restW s 0 := by
  rw [restW_step s 0 (by omega), restW_step s 1 (by omega), restW_step s 2 (by omega), restW_step s 3 (by omega), restW_end, List.append_nil]
  unfold wordL
  rw [← word_part, ← word_part, ← word_part, ← word_part, ← List.filter_append, ← List.filter_append, ← List.filter_append]
  have h3 : List.range' 128 64 ++ List.range' 192 64 = List.range' 128 128 := List.range'_append_1 (s := 128) (m := 64) (n := 64)
  have h2 : List.range' 64 64 ++ List.range' 128 128 = List.range' 64 192 := List.range'_append_1 (s := 64) (m := 64) (n := 128)
  have h1 : List.range' 0 64 ++ List.range' 64 192 = List.range' 0 256 := List.range'_append_1 (s := 0) (m := 64) (n := 192)
  simp only [Nat.reduceMul, Nat.reduceAdd]
  rw [h3, h2, h1]
  rfl

theorem mem_bytesL (s : BS) (b : Nat) : b ∈ bytesL s ↔ b < 256 ∧ s.getLsbD b = true := by
  unfold bytesL
  rw [List.mem_filter, List.mem_range'_1]
  constructor
  · rintro ⟨h1, h2⟩; exact ⟨by omega, h2⟩
  · rintro ⟨h1, h2⟩; exact ⟨by omega, h2⟩

theorem length_bytesL (s : BS) : (bytesL s).length ≤ 256 := by
  unfold bytesL
  refine Nat.le_trans (List.length_filter_le _ _) ?_
  rw [List.length_range']
  exact Nat.le_refl _

end Go.Proofs.YtegmoeeeomjkgaaDoor
end
section
namespace Go.Proofs.YtegmoeeeomjkgaaDoor
open Go Go.RowKit Go.Shelf

attribute [local go_sem] Oper.semAt_some

/-- A round keeps the program's table. -/
def KpG (W W' : World) : Prop := ∀ j v, W.cell? ⟨0, j, none⟩ = some v → W'.cell? ⟨0, j, none⟩ = some v
theorem kpG_t {A B C : World} (h : KpG A B) (k : KpG B C) : KpG A C := fun j v hv => k j v (h j v hv)
theorem kpG_b {w : World} (W : World) (l : Nat) (o o' : Obj) (_ : w.heap.size ≤ l) (h : W.heap[l]? = some o) (hc : o.isCells = false) (_ : o.isWalk = false) : KpG W (W.putObj l o') :=
  fun _ _ hv => cell_kept hv (grownBy_putObj' W l o') (fun r e => by cases e; exact ⟨o, h, hc⟩)
theorem KpG.refl (W : World) : KpG W W := fun _ _ h => h
theorem KpG.tab {W W' : World} (h : KpG W W') (hT : TabAt 0 Lib.deBruijn64tab W) : TabAt 0 Lib.deBruijn64tab W' := fun j hj => h _ _ (hT j hj)
theorem KpG.below {W W' : World} {n : Nat} (h : Below n W W') (hn : 0 < n) : KpG W W' := fun j v hv => (h.cell (p := ⟨0, j, none⟩) hn).trans hv

set_option maxRecDepth 100000 in
set_option maxHeartbeats 4000000 in
theorem bytes1_in (n : Nat) (hn : 1 ≤ n) (l Bn : Nat) (s : BS) (J Jx : List Nat → World → Prop)
    (hY : ∀ pre (x : Nat) W, x < 256 → J pre W → pre.length < (bytesL s).length → YieldAt Fence.wide (n - 1) Tryd.prog l #[.int .u8 x] W fun e W' =>
      (e = .returned (.bool true) ∧ J (pre ++ [x]) W' ∧ KpG W W') ∨ (e = .returned (.bool false) ∧ Jx (pre ++ [x]) W'))
    (W : World) (hBn : ∀ i, W.cell? ⟨Bn, i, none⟩ = (cset s)[i]?) (hT : TabAt 0 Lib.deBruijn64tab W) (h0 : J [] W) :
    CallsIn Fence.wide n Tryd.prog 45 #[.func (.yield l) #[] #[], .pointer (some ⟨Bn, 0, none⟩)] W fun e W' => (∃ v, e = .returned v) ∧
      ((∃ ys, ys = bytesL s ∧ J ys W') ∨ (∃ pre, pre <+: bytesL s ∧ Jx pre W')) := by
  have c0 : W.cell? ⟨Bn, 0, none⟩ = some (.int .u64 (wdI s 0)) := hBn 0
  have c1 : W.cell? ⟨Bn, 1, none⟩ = some (.int .u64 (wdI s 1)) := hBn 1
  have c2 : W.cell? ⟨Bn, 2, none⟩ = some (.int .u64 (wdI s 2)) := hBn 2
  have c3 : W.cell? ⟨Bn, 3, none⟩ = some (.int .u64 (wdI s 3)) := hBn 3
  have HT := Lib.hid hT
  clear hBn hT
  refine callsIn_of_wp Tryd.func45 rfl trivial ?_ rfl
  simp only [Tryd.ntmps45, List.size_toArray, List.length_cons, List.length_nil, Nat.reduceAdd, Nat.reduceSub, Array.replicate_succ, Array.replicate_zero, List.push_toArray, List.append_toArray, List.nil_append, List.cons_append]
  gi_wp2
  clear c0 c1 c2 c3
  gi_loopw [6] (fun p wr => ∃ (pre : List Nat) (i : Nat), p = .int .i64 i ∧ i ≤ 4 ∧ Hid (bytesL s = pre ++ restW s i) ∧ J pre wr ∧ Hid (TabAt 0 Lib.deBruijn64tab wr))
    (fun p _ => 4 - (intOf p).toNat)
  case atStart => exact ⟨[], 0, rfl, by omega, bytesL_words s, h0, HT⟩
  case round =>
    obtain ⟨pre, i, rfl, hi, hx, hJ, hTr⟩ := hrel
    by_cases hi4 : i < 4
    · have hix : ∀ w', (Instr.index 29 (.agg #[.int .u64 (wdI s 0), .int .u64 (wdI s 1), .int .u64 (wdI s 2), .int .u64 (wdI s 3)]) (.int .i64 i)).run Tryd.prog w' = .ok (.int .u64 (wdI s i)) w' := by
        have h : i = 0 ∨ i = 1 ∨ i = 2 ∨ i = 3 := by omega
        rcases h with rfl | rfl | rfl | rfl
        · exact ix0 _ _ _ _
        · exact ix1 _ _ _ _
        · exact ix2 _ _ _ _
        · exact ix3 _ _ _ _
      gi_wp2
      obtain ⟨wo, rfl⟩ : ∃ wo : World, wo = wr := ⟨_, rfl⟩
      clear hix
      have hdec : decide ((i : Int) < 4) = true := decide_eq_true (by omega)
      rw [hdec]
      clear hdec
      gi_loopw [4] (fun q wr => ∃ (pre : List Nat) (v : Nat), q = .int .u64 v ∧ v < 18446744073709551616 ∧ Hid (bytesL s = pre ++ ((wbits v).map (64 * i + ·) ++ restW s (i + 1))) ∧ J pre wr ∧ Hid (TabAt 0 Lib.deBruijn64tab wr))
        (fun q _ => (intOf q).toNat)
      case atStart =>
        refine ⟨pre, (wd s i).toNat, rfl, (wd s i).isLt, ?_, hJ, hTr⟩
        refine Lib.hid ?_
        rw [hx.out, restW_step s i hi4]; rfl
      case round =>
        clear hJ hTr hx
        obtain ⟨pre, v, rfl, hv, hx, hJ, hTr⟩ := hrel
        by_cases hv0 : v = 0
        · subst hv0
          have hx2 : Hid (bytesL s = pre ++ restW s (i + 1)) := by
            refine Lib.hid ?_
            rw [hx.out, wbits_zero]; rfl
          gi_wp2
          go_roundw
          case rel => exact ⟨pre, i + 1, by go_num, by omega, hx2, hJ, hTr⟩
          case measure => simp [intOf]; omega
        · have hv1 : ¬ (v : Int) = 0 := by omega
          obtain ⟨hb1, hb2, hb3⟩ := bits_low v hv0 hv
          have hz := Lib.hid (Tryd.bits_TrailingZeros64 v hv wr (fun _ => hTr.out))
          have hxx : Hid (bytesL s = (pre ++ [64 * i + Lib.ctz 64 v]) ++ ((wbits (v &&& (v - 1))).map (64 * i + ·) ++ restW s (i + 1))) := by
            refine Lib.hid ?_
            rw [hx.out, hb1]; simp
          have hlen : pre.length < (bytesL s).length := by rw [hxx.out]; simp
          obtain ⟨fn, tmps, assign, body, hy, hR⟩ := hY pre (64 * i + Lib.ctz 64 v) wr (by omega) hJ hlen
          have hband : bits .and .u64 (v : Int) ((v : Int) - 1) = ((v &&& (v - 1) : Nat) : Int) := by
            have := bits_and_u64_nat v (v - 1) hv (by omega)
            rw [← this]; congr 1; omega
          generalize Lib.ctz 64 v = z at hz hxx hb2 hy hR hlen
          clear hb1 hx
          have hcast : ((64 * i + z : Nat) : Int) = (i : Int) * 64 + (z : Int) := by omega
          rw [hcast] at hy
          clear hcast
          gi_wp2_with (refine ⟨trivial, ?_⟩; gi_at_call 46; refine (callsIn_wide.2 hz.out).mono ?_; rintro e w' ⟨rfl, rfl⟩)
          refine hR.mono ?_
          rintro e W3 (⟨rfl, hJ3, hk3⟩ | ⟨rfl, hJx3⟩)
          · have hT3 := Lib.hid (hk3.tab hTr.out)
            gi_wp2
            go_roundw
            case rel => exact ⟨pre ++ [64 * i + z], v &&& (v - 1), rfl, by omega, hxx, hJ3, hT3⟩
            case measure => simp [intOf]; omega
          · gi_wp2
            refine bodyPost_ret (results_none rfl _ _ _) rfl ?_
            exact ⟨⟨_, rfl⟩, .inr ⟨pre ++ [64 * i + z], by rw [hxx.out]; exact List.prefix_append _ _, hJx3⟩⟩
    · obtain rfl : i = 4 := by omega
      gi_wp2
      go_end0
      exact ⟨⟨_, rfl⟩, .inl ⟨pre, by rw [hx.out, restW_end, List.append_nil], hJ⟩⟩
end Go.Proofs.YtegmoeeeomjkgaaDoor
end
section
namespace Go.Proofs.YtegmoeeeomjkgaaDoor
open Go Go.RowKit Go.Shelf

attribute [local go_sem] Oper.semAt_some

theorem Tryd.info26 : (Tryd.prog.info? 26).map (fun i => (i.zero, i.size, i.bytes)) = some (some (.agg #[.int .u8 0, .int .u8 0]), 2, 2) := by kernel_rfl

theorem bytes_in (n : Nat) (s : BS) (w : World) :
    CallsIn Fence.wide n Tryd.prog 32 #[vset s] w fun e w' => e = .returned (.func (.func 45) #[] #[.pointer (some ⟨w.heap.size, 0, none⟩)]) ∧ w' = w.alloc (.cells (cset s) 29) := by
  unfold vset cset
  refine callsIn_of_wp Tryd.func32 rfl trivial ?_ rfl
  simp only [Tryd.ntmps32, List.size_toArray, List.length_cons, List.length_nil, Nat.reduceAdd, Nat.reduceSub, Array.replicate_succ, Array.replicate_zero, List.push_toArray, List.append_toArray, List.nil_append, List.cons_append]
  gi_wp2
  go_ret
  exact ⟨rfl, rfl⟩

theorem bytes_stops (n : Nat) (hn : 1 ≤ n) (Bn : Nat) (s : BS) (w : World) (hBn : Blk w Bn 29 (cset s)) (hT : TabAt 0 Lib.deBruijn64tab w) :
    SeqStopsK Fence.wide n Tryd.prog 45 #[.pointer (some ⟨Bn, 0, none⟩)] (fun x : Fin 256 => #[Value.int .u8 ((x.val : Nat) : Int)]) KpG (fun ys => ys.map Fin.val = bytesL s) (fun pre => pre.map Fin.val <+: bytesL s) (bytesL s).length w := by
  intro l J Jx W hW _ _ hY h0
  have hc : ∀ i, W.cell? ⟨Bn, i, none⟩ = (cset s)[i]? := (hBn.below hW hBn.lt).cell
  have hT' : TabAt 0 Lib.deBruijn64tab W := fun j hj => by
    have := hT j hj
    exact (hW.cell (p := ⟨0, j, none⟩) (lt_of_cell this)).trans this
  refine (bytes1_in n hn l Bn s (fun p W => ∃ q : List (Fin 256), p = q.map Fin.val ∧ J q W) (fun p W => ∃ q : List (Fin 256), p = q.map Fin.val ∧ Jx q W) ?_ W hc hT' ⟨[], rfl, h0⟩).mono ?_
  · rintro pre x W2 hx ⟨q, rfl, hJ⟩ hlen
    have h := hY q ⟨x, hx⟩ W2 hJ (by simpa using hlen)
    refine h.mono ?_
    rintro e W3 (⟨h1, h2, h3⟩ | ⟨h1, h2⟩)
    · exact .inl ⟨h1, ⟨q ++ [⟨x, hx⟩], by simp, h2⟩, h3⟩
    · exact .inr ⟨h1, ⟨q ++ [⟨x, hx⟩], by simp, h2⟩⟩
  · rintro e W2 ⟨h1, ⟨ys, hys, q, hq, hJ⟩ | ⟨pre, hpre, q, hq, hJ⟩⟩
    · exact ⟨h1, .inl ⟨q, hq.symm.trans hys, hJ⟩⟩
    · exact ⟨h1, .inr ⟨q, by show q.map Fin.val <+: _; rw [← hq]; exact hpre, hJ⟩⟩

/-- One byte more: the last range goes on, or a new one begins. -/
def rstep (out : List (Nat × Nat)) (x : Nat) : List (Nat × Nat) :=
  match out.getLast? with
  | some r => if (x + 256 - r.2) % 256 = 1 then out.dropLast ++ [(r.1, x)] else out ++ [(x, x)]
  | none => [(x, x)]
def rngs (l : List Nat) : List (Nat × Nat) := l.foldl rstep []
theorem rngs_snoc (l : List Nat) (x : Nat) : rngs (l ++ [x]) = rstep (rngs l) x := by simp [rngs, List.foldl_append]

theorem list_rev_cases (rs : List (Nat × Nat)) : rs = [] ∨ ∃ rs' r, rs = rs' ++ [r] := by
  rcases List.eq_nil_or_concat rs with h | ⟨rs', r, h⟩
  · exact .inl h
  · exact .inr ⟨rs', r, by rw [h, List.concat_eq_append]⟩

theorem rstep_length (rs : List (Nat × Nat)) (x : Nat) : (rstep rs x).length ≤ rs.length + 1 := by
  rcases list_rev_cases rs with rfl | ⟨rs', r, rfl⟩
  · simp [rstep]
  · simp only [rstep, List.getLast?_append, List.getLast?_singleton, Option.some_or]
    split <;> simp

theorem rstep_small (rs : List (Nat × Nat)) (x : Nat) (h : SmallR rs) (hx : x < 256) : SmallR (rstep rs x) := by
  rcases list_rev_cases rs with rfl | ⟨rs', r, rfl⟩
  · intro y hy; simp [rstep] at hy; subst hy; exact ⟨hx, hx⟩
  · have hr := h r (by simp)
    simp only [rstep, List.getLast?_append, List.getLast?_singleton, Option.some_or]
    intro y hy
    split at hy
    · simp at hy
      rcases hy with hy | rfl
      · exact h y (by simp [hy])
      · exact ⟨hr.1, hx⟩
    · simp at hy
      rcases hy with hy | rfl | rfl
      · exact h y (by simp [hy])
      · exact hr
      · exact ⟨hx, hx⟩

theorem rngs_length (l : List Nat) : (rngs l).length ≤ l.length := by
  have h : ∀ (l : List Nat) (rs : List (Nat × Nat)), (l.foldl rstep rs).length ≤ rs.length + l.length := by
    intro l
    induction l with
    | nil => intro rs; simp
    | cons x l ih =>
      intro rs
      have h1 := ih (rstep rs x)
      have h2 := rstep_length rs x
      simp only [List.foldl_cons, List.length_cons]
      omega
  have := h l []
  simpa [rngs] using this

theorem rngs_small (l : List Nat) (hl : ∀ x ∈ l, x < 256) : SmallR (rngs l) := by
  have h : ∀ (l : List Nat) (rs : List (Nat × Nat)), (∀ x ∈ l, x < 256) → SmallR rs → SmallR (l.foldl rstep rs) := by
    intro l
    induction l with
    | nil => intro rs _ h; exact h
    | cons x l ih =>
      intro rs hl h
      exact ih _ (fun y hy => hl y (by simp [hy])) (rstep_small rs x h (hl x (by simp)))
  exact h l [] hl (by intro x hx; cases hx)

/-- The cells of ranges. -/
def cellsR (rs : List (Nat × Nat)) : List Value := rs.flatMap fun r => [.int .u8 r.1, .int .u8 r.2]
theorem cellsR_snoc (rs : List (Nat × Nat)) (r : Nat × Nat) : cellsR (rs ++ [r]) = cellsR rs ++ [.int .u8 r.1, .int .u8 r.2] := by simp [cellsR]
theorem cellsR_length (rs : List (Nat × Nat)) : (cellsR rs).length = rs.length * 2 := by
  induction rs with
  | nil => rfl
  | cons r rs ih => simp [cellsR] at ih ⊢; omega
theorem cellsR_last (rs : List (Nat × Nat)) (r : Nat × Nat) : (cellsR (rs ++ [r]))[rs.length * 2 + 1]? = some (.int .u8 r.2) := by
  rw [cellsR_snoc, List.getElem?_append_right (by rw [cellsR_length]; omega), cellsR_length]
  simp
theorem cellsR_set (rs : List (Nat × Nat)) (r : Nat × Nat) (x : Nat) : (cellsR (rs ++ [r])).set (rs.length * 2 + 1) (.int .u8 x) = cellsR (rs ++ [(r.1, x)]) := by
  rw [cellsR_snoc, cellsR_snoc, List.set_append_right _ _ (by rw [cellsR_length]; omega), cellsR_length]
  simp

theorem cell_two_new (w : World) (x y : Value) (t : TypeId) : ∀ j u, [x, y][j]? = some u → (w.alloc (.cells #[x, y] t)).cell? ((⟨w.heap.size, 0, none⟩ : Addr).add j) = some u := by
  intro j u hj
  match j, hj with
  | 0, hj =>
    simp at hj
    subst hj
    simp [Addr.add]
  | 1, hj =>
    simp at hj
    subst hj
    simp [Addr.add]

set_option maxRecDepth 100000 in
set_option maxHeartbeats 4000000 in
theorem ranges_in (n : Nat) (hn : 6 ≤ n) (s : BS) (w : World) (hG : Glob w) :
    CallsIn Fence.wide n Tryd.prog 23 #[vset s] w fun e W' => ∃ v, e = .returned v ∧ W'.ownsRow w.heap.size 26 2 v (rngs (bytesL s)).length (cellsR (rngs (bytesL s))) ∧ (v = .slice none 0 0 ↔ rngs (bytesL s) = []) ∧ Below w.heap.size w W' := by
  have h1 : 1 ≤ n := by omega
  have h00 : 0 < w.heap.size := lt_of_cell (hG.1 0 (by decide))
  have hlen := length_bytesL s
  obtain ⟨i0, hi, hz0, hz1, hz2⟩ := info_parts Tryd.info26
  unfold vset
  refine callsIn_of_wp_marks Tryd.func23 rfl trivial ?_ rfl
  simp only [Tryd.ntmps23, List.size_toArray, List.length_cons, List.length_nil, Nat.reduceAdd, Nat.reduceSub, Array.replicate_succ, Array.replicate_zero, List.push_toArray, List.append_toArray, List.nil_append, List.cons_append]
  gi_wp2_with (refine ⟨trivial, ?_⟩; gi_at_call 32; refine (bytes_in (n - 1) s _).mono ?_; rintro e w' ⟨rfl, rfl⟩)
  have bT := Blk.new ((w.alloc (.cells #[.int .u64 (wdI s 0), .int .u64 (wdI s 1), .int .u64 (wdI s 2), .int .u64 (wdI s 3)] 29)).alloc (.cells #[.slice none 0 0] 22)) 29 (cset s)
  have bO := (Boxed.new (w.alloc (.cells #[.int .u64 (wdI s 0), .int .u64 (wdI s 1), .int .u64 (wdI s 2), .int .u64 (wdI s 3)] 29)) 22 (.slice none 0 0)).alloc (.cells (cset s) 29)
  simp only [World.size_alloc] at bT bO
  have hB0 : Below w.heap.size w (((w.alloc (.cells #[.int .u64 (wdI s 0), .int .u64 (wdI s 1), .int .u64 (wdI s 2), .int .u64 (wdI s 3)] 29)).alloc (.cells #[.slice none 0 0] 22)).alloc (.cells (cset s) 29)) :=
    (((Below.refl _ w).alloc (Nat.le_refl _) _).alloc (by simp) _).alloc (by simp; omega) _
  have hsz : (((w.alloc (.cells #[.int .u64 (wdI s 0), .int .u64 (wdI s 1), .int .u64 (wdI s 2), .int .u64 (wdI s 3)] 29)).alloc (.cells #[.slice none 0 0] 22)).alloc (.cells (cset s) 29)).heap.size = w.heap.size + 3 := by simp
  obtain ⟨W0, hW0⟩ : ∃ W0, (((w.alloc (.cells #[.int .u64 (wdI s 0), .int .u64 (wdI s 1), .int .u64 (wdI s 2), .int .u64 (wdI s 3)] 29)).alloc (.cells #[.slice none 0 0] 22)).alloc (.cells (cset s) 29)) = W0 := ⟨_, rfl⟩
  rw [hW0] at bT bO hB0 hsz ⊢
  clear hW0
  refine wpIn_rangeFunc_ownG rfl h1 (gf := 45) (lb := #[.pointer (some ⟨w.heap.size + 1 + 1, 0, none⟩)]) rfl trivial (enters_of Tryd.func45 (by kernel_rfl) rfl)
    (bytes_stops (n - 1) (by omega) (w.heap.size + 1 + 1) s W0 bT (hG.below (Nat.le_refl _) hB0).1) kpG_t kpG_b (Below.refl _ _) (fun _ => rfl)
    (fun pre W => (∃ v, Boxed W (w.heap.size + 1) 22 v ∧ W.ownsRow w.heap.size 26 2 v (rngs (pre.map Fin.val)).length (cellsR (rngs (pre.map Fin.val))) ∧ (v = .slice none 0 0 ↔ rngs (pre.map Fin.val) = [])) ∧ Below w.heap.size w W)
    (fun _ _ _ => False)
    (OwnFrom.and (Own.from (holdsRow_own w.heap.size (w.heap.size + 1) 22 26 2 (fun pre : List (Fin 256) => (rngs (pre.map Fin.val)).length) (fun pre => cellsR (rngs (pre.map Fin.val))) (fun pre v => v = .slice none 0 0 ↔ rngs (pre.map Fin.val) = [])) _) (ownFrom_below (Nat.le_refl _) (by omega)))
    (fun _ _ _ _ _ hs _ _ => hs)
    ⟨⟨_, bO, World.ownsRow_nil _ _ _ _, by simp [rngs]⟩, hB0⟩
    (fun x => { tmps := #[.agg #[.int .u64 (wdI s 0), .int .u64 (wdI s 1), .int .u64 (wdI s 2), .int .u64 (wdI s 3)], .pointer (some ⟨w.heap.size, 0, none⟩), .slice none 0 0, .pointer (some ⟨w.heap.size + 1, 0, none⟩), .int .u8 ((x.val : Nat) : Int), undef, .agg #[.int .u64 (wdI s 0), .int .u64 (wdI s 1), .int .u64 (wdI s 2), .int .u64 (wdI s 3)], .func (.func 45) #[] #[.pointer (some ⟨w.heap.size + 1 + 1, 0, none⟩)], .int .u8 ((x.val : Nat) : Int), undef, undef, undef, undef, undef, undef, undef, undef, undef, undef, undef, undef, undef, undef, undef, undef, undef, undef, undef, undef, undef, undef, undef, undef, undef, undef, undef], defers := [] }) ?assign ?body ?done ?stop
  case assign =>
    intro l x W K hK
    gi_wp2
    exact hK
  case body =>
    rintro l pre x W ⟨⟨v, hv, hrow, hnil⟩, hB⟩ hlt
    have hsn : (pre ++ [x]).map Fin.val = pre.map Fin.val ++ [x.val] := by simp
    have hlenP : (rngs (pre.map Fin.val)).length ≤ 256 := by
      have h1 := rngs_length (pre.map Fin.val)
      rw [List.length_map] at h1
      omega
    have hsm : SmallR (rngs (pre.map Fin.val)) := rngs_small _ (by
      intro y hy
      rw [List.mem_map] at hy
      obtain ⟨z, _, rfl⟩ := hy
      exact z.isLt)
    have hrs := rngs_snoc (pre.map Fin.val) x.val
    rw [← hsn] at hrs
    have HRS := Lib.hid hrs
    clear hrs hsn
    obtain ⟨rs, hrs⟩ : ∃ rs, rs = rngs (pre.map Fin.val) := ⟨_, rfl⟩
    rw [← hrs] at hrow hnil hlenP HRS hsm
    clear hrs
    obtain ⟨x, hx⟩ := x
    dsimp only at HRS ⊢
    have hc := hv.cell
    have hx256 : (x : Int) < 256 := by omega
    rcases List.eq_nil_or_concat rs with rfl | ⟨rs', r, hcat⟩
    · have hv0 : v = .slice none 0 0 := hnil.2 rfl
      have HS : Hid (rngs ((pre ++ [(⟨x, hx⟩ : Fin 256)]).map Fin.val) = [(x, x)]) := Lib.hid (HRS.out.trans rfl)
      clear HRS hnil
      subst hv0
      gi_wp2_with (gi_at_builtin; refine wpListIn_append_own _ rfl _ _ 22 rfl w.heap.size 26 i0 (.agg #[.int .u8 0, .int .u8 0]) 2 2 Tryd.underlying22 hi hz0 hz1 hz2 rfl (by decide) _ _ _ rfl (hrow.alloc _) ⟨W.heap.size, 0, none⟩ 1 1 [.int .u8 x, .int .u8 x] rfl rfl (cell_two_new _ _ _ _) (by simp [Value.oneCell']) (by unfold maxLen; omega) (by omega) (by have := hB.size; simp; omega) ?_; intro v' w1 hown' hgrow _; obtain ⟨g', cap', rfl⟩ := ownsRow_succ hown'; obtain ⟨hv1, hv2, hr2, hk2, hb2⟩ := hv.appended (by decide) hrow hB.size (Nat.le_succ _) hown' hgrow; have hc1 := hv1.cell; have hf1 := hv1.frozen)
      exact ⟨hk2.from _, KpG.below hb2 h00, ⟨_, hv2, by rw [HS.out]; exact hr2, by rw [HS.out]; simp⟩, hB.trans hb2⟩
    · rw [List.concat_eq_append] at hcat
      subst hcat
      have hrl : (rs' ++ [r]).length = rs'.length + 1 := by simp
      rw [hrl] at hrow hlenP
      obtain ⟨g, cap, rfl⟩ := ownsRow_succ hrow
      have HC := Lib.hid ((hrow.cellAt (rs'.length * 2 + 1) (by omega)).trans (cellsR_last rs' r))
      have hfg := hrow.frozenAt (rs'.length * 2 + 1)
      have HS : Hid (rngs ((pre ++ [(⟨x, hx⟩ : Fin 256)]).map Fin.val) = if (x + 256 - r.2) % 256 = 1 then rs' ++ [(r.1, x)] else rs' ++ [r] ++ [(x, x)]) := by
        refine Lib.hid (HRS.out.trans ?_)
        simp [rstep]
      clear HRS hnil
      obtain ⟨f, t⟩ := r
      dsimp only at HC HS
      have hcl := HC.out
      have ht : t < 256 := (hsm (f, t) (by simp)).2
      by_cases heq : (x + 256 - t) % 256 = 1
      · have hw : (IntKind.u8.wrap ((x : Int) - (t : Int)) == 1) = true := by
          rw [IntKind.wrap_u8']; simp; omega
        obtain ⟨hst, hgr⟩ := hrow.stored (rs'.length * 2 + 1) (.int .u8 x)
        have HST := Lib.hid hst
        have HGR := Lib.hid hgr
        have hgn : w.heap.size ≤ g := by
          rcases hrow.2 with ⟨h, _⟩ | ⟨g', cap', cur, h, hb, _⟩
          · cases h
          · cases h; exact hb
        have HNR := Lib.hid (hv.not_row (by decide) hrow)
        clear hst hgr
        gi_wp2
        rw [if_pos heq] at HS
        refine ⟨(KeepsOthers.setCell _ _ _).from _, KpG.below ((Below.refl w.heap.size W).setCell (p := ⟨g, _, none⟩) hgn _) h00, ⟨_, hv.kept HGR.out (by simpa [Value.ownBlock] using HNR.out), ?_, ?_⟩, hB.setCell (p := ⟨g, _, none⟩) hgn _⟩
        · rw [HS.out]
          have h := HST.out
          rw [cellsR_set rs' (f, t) x] at h
          simpa using h
        · rw [HS.out]; simp
      · have hw : (IntKind.u8.wrap ((x : Int) - (t : Int)) == 1) = false := by
          rw [IntKind.wrap_u8']; simp; omega
        rw [if_neg heq] at HS
        gi_wp2_with (gi_at_builtin; refine wpListIn_append_own _ rfl _ _ 22 rfl w.heap.size 26 i0 (.agg #[.int .u8 0, .int .u8 0]) 2 2 Tryd.underlying22 hi hz0 hz1 hz2 rfl (by decide) _ _ _ rfl (hrow.alloc _) ⟨W.heap.size, 0, none⟩ 1 1 [.int .u8 x, .int .u8 x] rfl rfl (cell_two_new _ _ _ _) (by simp [Value.oneCell']) (by unfold maxLen; omega) (by omega) (by have := hB.size; simp; omega) ?_; intro v' w1 hown' hgrow _; obtain ⟨g', cap', rfl⟩ := ownsRow_succ hown'; obtain ⟨hv1, hv2, hr2, hk2, hb2⟩ := hv.appended (by decide) hrow hB.size (Nat.le_succ _) hown' hgrow; have hc1 := hv1.cell; have hf1 := hv1.frozen)
        have hkk : rs'.length + 1 + 1 = (rs' ++ [(f, t)] ++ [(x, x)]).length := by simp
        refine ⟨hk2.from _, KpG.below hb2 h00, ⟨_, hv2, ?_, by rw [HS.out]; simp⟩, hB.trans hb2⟩
        rw [HS.out, cellsR_snoc, ← hkk]
        exact hr2
  case done =>
    rintro D ys W hD hys ⟨⟨v, hv, hrow, hnil⟩, hB⟩ hK
    have hys2 : ys.map Fin.val = bytesL s := hys
    rw [hys2] at hrow hnil
    have hc := hv.cell
    gi_wp2
    refine ⟨by simp, .inl ⟨_, _, rfl, run_takeDeferred hK, ?_⟩⟩
    exact ⟨_, results_tmp rfl _ _ _, v, rfl, ownsRow_putObj hrow _ hK rfl, hnil, hB.trans (belowK_b (w := w) (Nat.le_refl _) W D _ _ (by omega) hK rfl rfl)⟩
  case stop =>
    rintro D c pre W _ _ h _
    exact h.elim
end Go.Proofs.YtegmoeeeomjkgaaDoor
end
section
namespace Go.Proofs.YtegmoeeeomjkgaaDoor
open Go Go.RowKit

/-! How many bits a word has, as math/bits reckons it. -/

/-- How many of the first n bits are set. -/
def pc (x : Nat) : Nat → Nat
  | 0 => 0
  | n + 1 => pc x n + (if x.testBit n then 1 else 0)

theorem and_split (k a b : Nat) : a &&& b = (a % 2 ^ k &&& b % 2 ^ k) + 2 ^ k * (a / 2 ^ k &&& b / 2 ^ k) := by
  have h1 : (a &&& b) % 2 ^ k = a % 2 ^ k &&& b % 2 ^ k := Nat.and_mod_two_pow
  have h2 : (a &&& b) / 2 ^ k = a / 2 ^ k &&& b / 2 ^ k := Nat.and_div_two_pow
  rw [← h1, ← h2]
  have := Nat.mod_add_div (a &&& b) (2 ^ k)
  omega

/-- The three steps, byte by byte. -/
def s1 (b : Nat) : Nat := (b / 2 &&& 85) + (b &&& 85)
def s2 (b : Nat) : Nat := (b / 4 &&& 51) + (b &&& 51)
def s3 (b : Nat) : Nat := (b / 16 + b) &&& 15

/-- A mask of n bytes. -/
def mask (m : Nat) : Nat → Nat
  | 0 => 0
  | n + 1 => m + 256 * mask m n

theorem b1 : ∀ b : Fin 256, ∀ c : Fin 2, (b.val / 2 + 128 * c.val) &&& 85 = b.val / 2 &&& 85 := by decide +kernel

theorem step1 (n : Nat) : ∀ x : Nat, (x / 2 &&& mask 85 (n + 1)) + (x &&& mask 85 (n + 1)) = s1 (x % 256) + 256 * ((x / 256 / 2 &&& mask 85 n) + (x / 256 &&& mask 85 n)) := by
  intro x
  have hm : mask 85 (n + 1) % 2 ^ 8 = 85 := by simp [mask]
  have hd : mask 85 (n + 1) / 2 ^ 8 = mask 85 n := by simp [mask]; omega
  rw [and_split 8 (x / 2), and_split 8 x, hm, hd]
  have e1 : x / 2 % 2 ^ 8 = x % 256 / 2 + 128 * (x / 256 % 2) := by omega
  have e2 : x / 2 / 2 ^ 8 = x / 256 / 2 := by omega
  have e3 : x % 2 ^ 8 = x % 256 := rfl
  have e4 : x / 2 ^ 8 = x / 256 := rfl
  rw [e1, e2, e3, e4]
  have hb := b1 ⟨x % 256, by omega⟩ ⟨x / 256 % 2, by omega⟩
  dsimp only at hb
  rw [hb]
  unfold s1
  omega

theorem b2 : ∀ b : Fin 256, ∀ c : Fin 4, (b.val / 4 + 64 * c.val) &&& 51 = b.val / 4 &&& 51 := by decide +kernel
theorem step2 (n : Nat) : ∀ x : Nat, (x / 4 &&& mask 51 (n + 1)) + (x &&& mask 51 (n + 1)) = s2 (x % 256) + 256 * ((x / 256 / 4 &&& mask 51 n) + (x / 256 &&& mask 51 n)) := by
  intro x
  have hm : mask 51 (n + 1) % 2 ^ 8 = 51 := by simp [mask]
  have hd : mask 51 (n + 1) / 2 ^ 8 = mask 51 n := by simp [mask]; omega
  rw [and_split 8 (x / 4), and_split 8 x, hm, hd]
  have e1 : x / 4 % 2 ^ 8 = x % 256 / 4 + 64 * (x / 256 % 4) := by omega
  have e2 : x / 4 / 2 ^ 8 = x / 256 / 4 := by omega
  have e3 : x % 2 ^ 8 = x % 256 := rfl
  have e4 : x / 2 ^ 8 = x / 256 := rfl
  rw [e1, e2, e3, e4]
  have hb := b2 ⟨x % 256, by omega⟩ ⟨x / 256 % 4, by omega⟩
  dsimp only at hb
  rw [hb]
  unfold s2
  omega

theorem and15 (x : Nat) : x &&& 15 = x % 16 := Nat.and_two_pow_sub_one_eq_mod x 4
theorem mask15 (n : Nat) : ∀ x : Nat, x &&& mask 15 (n + 1) = x % 16 + 256 * (x / 256 &&& mask 15 n) := by
  intro x
  have hm : mask 15 (n + 1) % 2 ^ 8 = 15 := by simp [mask]
  have hd : mask 15 (n + 1) / 2 ^ 8 = mask 15 n := by simp [mask]; omega
  rw [and_split 8 x, hm, hd, and15]
  have e3 : x % 2 ^ 8 % 16 = x % 16 := by omega
  rw [e3]

theorem s1_le : ∀ b : Fin 256, s1 b.val ≤ 170 := by decide +kernel
theorem s2_le : ∀ b : Fin 256, s2 (s1 b.val) ≤ 68 ∧ s2 (s1 b.val) % 16 ≤ 4 := by decide +kernel
theorem s3_pc : ∀ b : Fin 256, s3 (s2 (s1 b.val)) = pc b.val 8 := by decide +kernel
theorem pc8_le : ∀ b : Fin 256, pc b.val 8 ≤ 8 := by decide +kernel

def byteSum (g : Nat → Nat) : Nat → Nat → Nat
  | 0, _ => 0
  | n + 1, x => g (x % 256) + 256 * byteSum g n (x / 256)

theorem sum1 (n : Nat) : ∀ x, (x / 2 &&& mask 85 n) + (x &&& mask 85 n) = byteSum s1 n x := by
  induction n with
  | zero => intro x; simp [mask, byteSum]
  | succ n ih => intro x; rw [step1, ih, byteSum]

theorem sum2 (n : Nat) : ∀ x, (byteSum s1 n x / 4 &&& mask 51 n) + (byteSum s1 n x &&& mask 51 n) = byteSum (fun b => s2 (s1 b)) n x := by
  induction n with
  | zero => intro x; simp [mask, byteSum]
  | succ n ih =>
    intro x
    have h1 := s1_le ⟨x % 256, by omega⟩
    dsimp only at h1
    rw [step2, byteSum, byteSum]
    have e1 : (s1 (x % 256) + 256 * byteSum s1 n (x / 256)) % 256 = s1 (x % 256) := by omega
    have e2 : (s1 (x % 256) + 256 * byteSum s1 n (x / 256)) / 256 = byteSum s1 n (x / 256) := by omega
    rw [e1, e2, ih]

theorem sum3 (n : Nat) : ∀ x, (byteSum (fun b => s2 (s1 b)) n x / 16 + byteSum (fun b => s2 (s1 b)) n x) &&& mask 15 n = byteSum (fun b => pc b 8) n x := by
  induction n with
  | zero => intro x; simp [mask, byteSum]
  | succ n ih =>
    intro x
    have h1 := s2_le ⟨x % 256, by omega⟩
    have h3 := s3_pc ⟨x % 256, by omega⟩
    dsimp only at h1 h3
    have h2 : byteSum (fun b => s2 (s1 b)) n (x / 256) % 16 ≤ 4 := by
      cases n with
      | zero => simp [byteSum]
      | succ n =>
        have := s2_le ⟨x / 256 % 256, by omega⟩
        dsimp only at this
        rw [byteSum]
        omega
    have ih := ih (x / 256)
    rw [mask15, byteSum, byteSum]
    generalize byteSum (fun b => s2 (s1 b)) n (x / 256) = Z at *
    have e1 : ((s2 (s1 (x % 256)) + 256 * Z) / 16 + (s2 (s1 (x % 256)) + 256 * Z)) % 16 = (s2 (s1 (x % 256)) / 16 + s2 (s1 (x % 256))) % 16 := by omega
    have e2 : ((s2 (s1 (x % 256)) + 256 * Z) / 16 + (s2 (s1 (x % 256)) + 256 * Z)) / 256 = Z / 16 + Z := by omega
    rw [e1, e2, ih, ← h3]
    unfold s3
    rw [and15]

theorem pc_split (x n : Nat) : pc x (8 + n) = pc (x % 256) 8 + pc (x / 256) n := by
  induction n with
  | zero =>
    have h : ∀ i, i < 8 → (x % 256).testBit i = x.testBit i := by
      intro i hi
      have := Nat.testBit_mod_two_pow x 8 i
      rw [show (2 : Nat) ^ 8 = 256 from rfl] at this
      rw [this]; simp [hi]
    simp [pc, h]
  | succ n ih =>
    have h : (x / 256).testBit n = x.testBit (8 + n) := by
      have := (Nat.testBit_div_two_pow x n : (x / 2 ^ 8).testBit n = x.testBit (n + 8))
      rw [show (2 : Nat) ^ 8 = 256 from rfl] at this
      rw [this, Nat.add_comm]
    show pc x (8 + n) + (if x.testBit (8 + n) then 1 else 0) = pc (x % 256) 8 + (pc (x / 256) n + (if (x / 256).testBit n then 1 else 0))
    rw [ih, h]
    omega

theorem byteSum8 (x : Nat) : ∃ a0 a1 a2 a3 a4 a5 a6 a7 : Nat, byteSum (fun b => pc b 8) 8 x = a0 + 256 * (a1 + 256 * (a2 + 256 * (a3 + 256 * (a4 + 256 * (a5 + 256 * (a6 + 256 * a7)))))) ∧
    a0 ≤ 8 ∧ a1 ≤ 8 ∧ a2 ≤ 8 ∧ a3 ≤ 8 ∧ a4 ≤ 8 ∧ a5 ≤ 8 ∧ a6 ≤ 8 ∧ a7 ≤ 8 ∧ pc x 64 = a0 + a1 + a2 + a3 + a4 + a5 + a6 + a7 := by
  have hle : ∀ y, pc (y % 256) 8 ≤ 8 := fun y => pc8_le ⟨y % 256, by omega⟩
  refine ⟨pc (x % 256) 8, pc (x / 256 % 256) 8, pc (x / 256 / 256 % 256) 8, pc (x / 256 / 256 / 256 % 256) 8, pc (x / 256 / 256 / 256 / 256 % 256) 8, pc (x / 256 / 256 / 256 / 256 / 256 % 256) 8, pc (x / 256 / 256 / 256 / 256 / 256 / 256 % 256) 8, pc (x / 256 / 256 / 256 / 256 / 256 / 256 / 256 % 256) 8, by simp only [byteSum, Nat.mul_zero, Nat.add_zero], hle _, hle _, hle _, hle _, hle _, hle _, hle _, hle _, ?_⟩
  have h0 : pc (x) 64 = pc (x % 256) 8 + pc (x / 256) 56 := pc_split (x) 56
  have h1 : pc (x / 256) 56 = pc (x / 256 % 256) 8 + pc (x / 256 / 256) 48 := pc_split (x / 256) 48
  have h2 : pc (x / 256 / 256) 48 = pc (x / 256 / 256 % 256) 8 + pc (x / 256 / 256 / 256) 40 := pc_split (x / 256 / 256) 40
  have h3 : pc (x / 256 / 256 / 256) 40 = pc (x / 256 / 256 / 256 % 256) 8 + pc (x / 256 / 256 / 256 / 256) 32 := pc_split (x / 256 / 256 / 256) 32
  have h4 : pc (x / 256 / 256 / 256 / 256) 32 = pc (x / 256 / 256 / 256 / 256 % 256) 8 + pc (x / 256 / 256 / 256 / 256 / 256) 24 := pc_split (x / 256 / 256 / 256 / 256) 24
  have h5 : pc (x / 256 / 256 / 256 / 256 / 256) 24 = pc (x / 256 / 256 / 256 / 256 / 256 % 256) 8 + pc (x / 256 / 256 / 256 / 256 / 256 / 256) 16 := pc_split (x / 256 / 256 / 256 / 256 / 256) 16
  have h6 : pc (x / 256 / 256 / 256 / 256 / 256 / 256) 16 = pc (x / 256 / 256 / 256 / 256 / 256 / 256 % 256) 8 + pc (x / 256 / 256 / 256 / 256 / 256 / 256 / 256) 8 := pc_split (x / 256 / 256 / 256 / 256 / 256 / 256) 8
  have h7 : pc (x / 256 / 256 / 256 / 256 / 256 / 256 / 256) 8 = pc (x / 256 / 256 / 256 / 256 / 256 / 256 / 256 % 256) 8 + pc (x / 256 / 256 / 256 / 256 / 256 / 256 / 256 / 256) 0 := pc_split (x / 256 / 256 / 256 / 256 / 256 / 256 / 256) 0
  have hz : pc (x / 256 / 256 / 256 / 256 / 256 / 256 / 256 / 256) 0 = 0 := rfl
  rw [h0, h1, h2, h3, h4, h5, h6, h7, hz]
  simp only [Nat.add_assoc, Nat.add_zero]

theorem div_low (L H B : Nat) (h : L < B) : (L + B * H) / B = H := by
  have hB : 0 < B := by omega
  rw [Nat.add_mul_div_left _ _ hB, Nat.div_eq_of_lt h, Nat.zero_add]

theorem last_step (a0 a1 a2 a3 a4 a5 a6 a7 : Nat) (h0 : a0 ≤ 8) (h1 : a1 ≤ 8) (h2 : a2 ≤ 8) (h3 : a3 ≤ 8) (h4 : a4 ≤ 8) (h5 : a5 ≤ 8) (h6 : a6 ≤ 8) (h7 : a7 ≤ 8) (y : Nat)
    (hy : y = a0 + 256 * (a1 + 256 * (a2 + 256 * (a3 + 256 * (a4 + 256 * (a5 + 256 * (a6 + 256 * (a7)))))))) :
    y < 2000000000000000000 ∧ ∃ t1 t2 t3, t1 = y + y / 256 ∧ t2 = t1 + t1 / 65536 ∧ t3 = t2 + t2 / 4294967296 ∧ t1 < 18446744073709551616 ∧ t2 < 18446744073709551616 ∧ t3 < 18446744073709551616 ∧ t3 % 128 = a0 + a1 + a2 + a3 + a4 + a5 + a6 + a7 := by
  have hy2 : y < 2000000000000000000 := by omega
  refine ⟨hy2, _, _, _, rfl, rfl, rfl, ?_⟩
  have e1 : y / 256 = a1 + 256 * (a2 + 256 * (a3 + 256 * (a4 + 256 * (a5 + 256 * (a6 + 256 * (a7)))))) := by rw [hy]; exact div_low _ _ _ (by omega)
  obtain ⟨t1, ht1⟩ : ∃ t1, t1 = y + y / 256 := ⟨_, rfl⟩
  rw [← ht1]
  have f1 : t1 = (a0 + a1) + 256 * ((a1 + a2) + 256 * ((a2 + a3) + 256 * ((a3 + a4) + 256 * ((a4 + a5) + 256 * ((a5 + a6) + 256 * ((a6 + a7) + 256 * (a7))))))) := by rw [ht1, e1, hy]; omega
  have g1 : t1 = (((a0 + a1)) + 256 * ((a1 + a2))) + 65536 * ((a2 + a3) + 256 * ((a3 + a4) + 256 * ((a4 + a5) + 256 * ((a5 + a6) + 256 * ((a6 + a7) + 256 * (a7)))))) := by rw [f1]; omega
  have e2 : t1 / 65536 = (a2 + a3) + 256 * ((a3 + a4) + 256 * ((a4 + a5) + 256 * ((a5 + a6) + 256 * ((a6 + a7) + 256 * (a7))))) := by rw [g1]; exact div_low _ _ _ (by clear e1 ht1 f1 g1 hy hy2; omega)
  obtain ⟨t2, ht2⟩ : ∃ t2, t2 = t1 + t1 / 65536 := ⟨_, rfl⟩
  rw [← ht2]
  have f2 : t2 = (a0 + a1 + a2 + a3) + 256 * ((a1 + a2 + a3 + a4) + 256 * ((a2 + a3 + a4 + a5) + 256 * ((a3 + a4 + a5 + a6) + 256 * ((a4 + a5 + a6 + a7) + 256 * ((a5 + a6 + a7) + 256 * ((a6 + a7) + 256 * ((a7)))))))) := by rw [ht2, e2, f1]; omega
  have g2 : t2 = ((a0 + a1 + a2 + a3) + 256 * ((a1 + a2 + a3 + a4) + 256 * ((a2 + a3 + a4 + a5) + 256 * ((a3 + a4 + a5 + a6))))) + 4294967296 * ((a4 + a5 + a6 + a7) + 256 * ((a5 + a6 + a7) + 256 * ((a6 + a7) + 256 * ((a7))))) := by rw [f2]; omega
  have e3 : t2 / 4294967296 = (a4 + a5 + a6 + a7) + 256 * ((a5 + a6 + a7) + 256 * ((a6 + a7) + 256 * ((a7)))) := by rw [g2]; exact div_low _ _ _ (by clear e1 ht1 f1 g1 e2 ht2 f2 g2 hy hy2; omega)
  have b1 : t1 < 18446744073709551616 := by clear f2 g2 e3 ht2 g1 e2; omega
  have b2 : t2 < 18446744073709551616 := by clear g2 e3 ht2 g1 e2 f1 ht1 e1 hy; omega
  obtain ⟨t3, ht3⟩ : ∃ t3, t3 = t2 + t2 / 4294967296 := ⟨_, rfl⟩
  rw [← ht3]
  clear g2 ht2 g1 e2 f1 ht1 e1 hy
  have f3 : t3 = (a0 + a1 + a2 + a3 + a4 + a5 + a6 + a7) + 256 * ((a1 + a2 + a3 + a4 + a5 + a6 + a7) + 256 * ((a2 + a3 + a4 + a5 + a6 + a7) + 256 * ((a3 + a4 + a5 + a6 + a7) + 256 * ((a4 + a5 + a6 + a7) + 256 * ((a5 + a6 + a7) + 256 * ((a6 + a7) + 256 * ((a7)))))))) := by rw [ht3, e3, f2]; omega
  clear f2 e3 ht3
  refine ⟨b1, b2, by omega, by omega⟩

end Go.Proofs.YtegmoeeeomjkgaaDoor
end
