import Derived.Test.YtegmoeeeomjkgaaDoorF
namespace Go.Proofs.YtegmoeeeomjkgaaDoor
open Go Go.RowKit

/-- Sets as they lie behind a slice. -/
def RowB (w : World) (a : Option Addr) (l : List BS) : Prop :=
  ∀ (i : Nat) (x : BS), l[i]? = some x → ∃ b off, a = some ⟨b, off, none⟩ ∧ w.cell? ⟨b, off + i * 4, none⟩ = some (.int .u64 (wdI x 0)) ∧ w.cell? ⟨b, off + i * 4 + 1, none⟩ = some (.int .u64 (wdI x 1)) ∧ w.cell? ⟨b, off + i * 4 + 2, none⟩ = some (.int .u64 (wdI x 2)) ∧ w.cell? ⟨b, off + i * 4 + 3, none⟩ = some (.int .u64 (wdI x 3))

def unionL (l : List BS) : BS := l.foldl (fun u s => u ||| s) 0#256

theorem cset_zero : cset 0#256 = zcs := by
  have h : ∀ i, i < 4 → wdI 0#256 i = 0 := by decide
  unfold cset zcs; rw [h 0 (by omega), h 1 (by omega), h 2 (by omega), h 3 (by omega)]

set_option maxRecDepth 100000 in
set_option maxHeartbeats 8000000 in
theorem union_any (a : Option Addr) (cap : Nat) (l : List BS) (w : World) (hd : RowB w a l) (hl : l.length ≤ 1048576) :
    Calls Tryd.prog 20 #[.slice a l.length cap] w fun e w' => e = .returned (vset (unionL l)) ∧ Below w.heap.size w w' := by
  have HD := Lib.hid hd
  clear hd
  go_enter Tryd.func20, Tryd.ntmps20
  go_wp2
  go_loopw [10] (fun i wr => ∃ (k : Nat), i = .int .i64 k ∧ k ≤ l.length ∧ Hid (Blk wr w.heap.size 29 zcs) ∧ Hid (Blk wr (w.heap.size + 1) 29 (cset (unionL (l.take k)))) ∧ Hid (Below w.heap.size w wr))
    (fun i _ => l.length - (intOf i).toNat)
  case atStart =>
    refine ⟨0, rfl, Nat.zero_le _, ?_, ?_, ?_⟩
    · exact (Blk.new w 29 zcs).alloc _
    · have h := Blk.new (w.alloc (.cells #[.int .u64 0, .int .u64 0, .int .u64 0, .int .u64 0] 29)) 29 #[.int .u64 0, .int .u64 0, .int .u64 0, .int .u64 0]
      rw [World.size_alloc] at h
      rw [List.take_zero, show unionL [] = 0#256 from rfl, cset_zero]
      exact h
    · exact ((Below.refl _ w).alloc (Nat.le_refl _) _).alloc (by simp) _
  case round =>
    obtain ⟨k, rfl, hk, hZ, hU, hB⟩ := hrel
    by_cases hlt : k < l.length
    · have HX : Hid (l[k]? = some l[k]) := Lib.hid (List.getElem?_eq_getElem hlt)
      obtain ⟨x, hx⟩ : ∃ x, l[k] = x := ⟨_, rfl⟩
      rw [hx] at HX
      obtain ⟨u, hu⟩ : ∃ u, u = unionL (l.take k) := ⟨_, rfl⟩
      rw [← hu] at hU
      have HN : Hid (unionL (l.take (k + 1)) = u ||| x) := by
        refine Lib.hid ?_
        rw [List.take_add_one, HX.out, hu]
        simp [unionL, List.foldl_append]
      clear hx hu
      obtain ⟨b, off, rfl, e0, e1, e2, e3⟩ := HD.out k _ HX.out
      have bl : b < w.heap.size := lt_of_cell e0
      have r0 : wr.cell? ⟨b, off + k * 4, none⟩ = some (.int .u64 (wdI x 0)) := (hB.out.cell (p := ⟨b, _, none⟩) bl).trans e0
      have r1 : wr.cell? ⟨b, off + k * 4 + 1, none⟩ = some (.int .u64 (wdI x 1)) := (hB.out.cell (p := ⟨b, _, none⟩) bl).trans e1
      have r2 : wr.cell? ⟨b, off + k * 4 + 2, none⟩ = some (.int .u64 (wdI x 2)) := (hB.out.cell (p := ⟨b, _, none⟩) bl).trans e2
      have r3 : wr.cell? ⟨b, off + k * 4 + 3, none⟩ = some (.int .u64 (wdI x 3)) := (hB.out.cell (p := ⟨b, _, none⟩) bl).trans e3
      clear e0 e1 e2 e3
      have hszu : w.heap.size + 1 < wr.heap.size := hU.out.lt
      go_wp2
      have hU1 := Lib.hid (hU.out.alloc (.cells (cset x) 29))
      have hZ1 := Lib.hid (hZ.out.alloc (.cells (cset x) 29))
      have hB1 := Lib.hid (hB.out.alloc hB.out.size (.cells (cset x) 29))
      clear hU hZ hB r0 r1 r2 r3
      obtain ⟨wo, hwo⟩ : ∃ wo : World, wo = wr.alloc (.cells (cset x) 29) := ⟨_, rfl⟩
      have hwo2 : wr.alloc (.cells #[.int .u64 (wdI x 0), .int .u64 (wdI x 1), .int .u64 (wdI x 2), .int .u64 (wdI x 3)] 29) = wo := hwo.symm
      rw [← hwo] at hU1 hZ1 hB1
      rw [hwo2]
      clear hwo2
      have h0 := wdI_or u x 0
      have h1 := wdI_or u x 1
      have h2 := wdI_or u x 2
      have h3 := wdI_or u x 3
      have i0 := ix0 (wdI x 0) (wdI x 1) (wdI x 2) (wdI x 3)
      have i1 := ix1 (wdI x 0) (wdI x 1) (wdI x 2) (wdI x 3)
      have i2 := ix2 (wdI x 0) (wdI x 1) (wdI x 2) (wdI x 3)
      have i3 := ix3 (wdI x 0) (wdI x 1) (wdI x 2) (wdI x 3)
      go_loopw [15] (fun i wi => ∃ (m : Nat) (a b c d : Int), i = .int .i64 m ∧ mixed u (u ||| x) m a b c d ∧ Hid (Blk wi w.heap.size 29 zcs) ∧ Hid (Blk wi (w.heap.size + 1) 29 #[.int .u64 a, .int .u64 b, .int .u64 c, .int .u64 d]) ∧ Hid (Below w.heap.size w wi))
        (fun i _ => 4 - (intOf i).toNat)
      case atStart => exact ⟨0, _, _, _, _, rfl, .inl ⟨rfl, rfl, rfl, rfl, rfl⟩, hZ1, hU1, hB1⟩
      case round =>
        clear hU1 hZ1 hB1 hwo
        obtain ⟨m, a, b', c, d, rfl, hk', hZ, hU, hB⟩ := hrel
        rcases hk' with ⟨rfl, rfl, rfl, rfl, rfl⟩ | ⟨rfl, rfl, rfl, rfl, rfl⟩ | ⟨rfl, rfl, rfl, rfl, rfl⟩ | ⟨rfl, rfl, rfl, rfl, rfl⟩ | ⟨rfl, rfl, rfl, rfl, rfl⟩
        · have c0 := hU.out.cell 0
          have f0 := hU.out.frozen 0
          simp only [List.getElem?_toArray, List.getElem?_cons_succ, List.getElem?_cons_zero] at c0
          go_wp2
          go_roundw
          case rel => exact ⟨1, _, _, _, _, by go_num, .inr (.inl ⟨rfl, rfl, rfl, rfl, rfl⟩), hZ.out.other (by simp) _, Lib.hid (by simpa using hU.out.set 0 (.int .u64 (wdI (u ||| x) 0))), hB.out.setCell (p := ⟨w.heap.size + 1, _, none⟩) (by simp) _⟩
          case measure => simp [intOf]
        · have c1 := hU.out.cell 1
          have f1 := hU.out.frozen 1
          simp only [List.getElem?_toArray, List.getElem?_cons_succ, List.getElem?_cons_zero] at c1
          go_wp2
          go_roundw
          case rel => exact ⟨2, _, _, _, _, by go_num, .inr (.inr (.inl ⟨rfl, rfl, rfl, rfl, rfl⟩)), hZ.out.other (by simp) _, Lib.hid (by simpa using hU.out.set 1 (.int .u64 (wdI (u ||| x) 1))), hB.out.setCell (p := ⟨w.heap.size + 1, _, none⟩) (by simp) _⟩
          case measure => simp [intOf]
        · have c2 := hU.out.cell 2
          have f2 := hU.out.frozen 2
          simp only [List.getElem?_toArray, List.getElem?_cons_succ, List.getElem?_cons_zero] at c2
          go_wp2
          go_roundw
          case rel => exact ⟨3, _, _, _, _, by go_num, .inr (.inr (.inr (.inl ⟨rfl, rfl, rfl, rfl, rfl⟩))), hZ.out.other (by simp) _, Lib.hid (by simpa using hU.out.set 2 (.int .u64 (wdI (u ||| x) 2))), hB.out.setCell (p := ⟨w.heap.size + 1, _, none⟩) (by simp) _⟩
          case measure => simp [intOf]
        · have c3 := hU.out.cell 3
          have f3 := hU.out.frozen 3
          simp only [List.getElem?_toArray, List.getElem?_cons_succ, List.getElem?_cons_zero] at c3
          go_wp2
          go_roundw
          case rel => exact ⟨4, _, _, _, _, by go_num, .inr (.inr (.inr (.inr ⟨rfl, rfl, rfl, rfl, rfl⟩))), hZ.out.other (by simp) _, Lib.hid (by simpa using hU.out.set 3 (.int .u64 (wdI (u ||| x) 3))), hB.out.setCell (p := ⟨w.heap.size + 1, _, none⟩) (by simp) _⟩
          case measure => simp [intOf]
        · go_wp2
          go_roundw
          case rel => exact ⟨k + 1, by go_num, by omega, hZ, by rw [HN.out]; exact hU, hB⟩
          case measure => simp [intOf]; omega
    · obtain rfl : k = l.length := by omega
      rw [List.take_length] at hU
      obtain ⟨u, hu⟩ : ∃ u, u = unionL l := ⟨_, rfl⟩
      rw [← hu] at hU
      have HUU := Lib.hid hu
      clear hu
      have c0 : wr.cell? ⟨(w.heap.size + 1), 0, none⟩ = some (.int .u64 (wdI (u) 0)) := Blk.cell hU.out 0
      have c1 : wr.cell? ⟨(w.heap.size + 1), 1, none⟩ = some (.int .u64 (wdI (u) 1)) := Blk.cell hU.out 1
      have c2 : wr.cell? ⟨(w.heap.size + 1), 2, none⟩ = some (.int .u64 (wdI (u) 2)) := Blk.cell hU.out 2
      have c3 : wr.cell? ⟨(w.heap.size + 1), 3, none⟩ = some (.int .u64 (wdI (u) 3)) := Blk.cell hU.out 3
      have z0 : wr.cell? ⟨w.heap.size, 0, none⟩ = some (.int .u64 0) := Blk.cell hZ.out 0
      have z1 : wr.cell? ⟨w.heap.size, 1, none⟩ = some (.int .u64 0) := Blk.cell hZ.out 1
      have z2 : wr.cell? ⟨w.heap.size, 2, none⟩ = some (.int .u64 0) := Blk.cell hZ.out 2
      have z3 : wr.cell? ⟨w.heap.size, 3, none⟩ = some (.int .u64 0) := Blk.cell hZ.out 3
      have fz : ∀ i, wr.frozen? ⟨w.heap.size, i, none⟩ = false := Blk.frozen hZ.out
      go_wp2
      have y := Blk.set4 hZ.out (.int .u64 (wdI (u) 0)) (.int .u64 (wdI (u) 1)) (.int .u64 (wdI (u) 2)) (.int .u64 (wdI (u) 3))
      have y0 := y.cell 0
      have y1 := y.cell 1
      have y2 := y.cell 2
      have y3 := y.cell 3
      refine bodyPost_ret (v := .agg #[.int .u64 (wdI u 0), .int .u64 (wdI u 1), .int .u64 (wdI u 2), .int .u64 (wdI u 3)]) (by simp [results, Tryd.results20, go_sem, y0, y1, y2, y3]) rfl ⟨by rw [← HUU.out]; rfl, ?_⟩
      exact below_set4 hB.out (Nat.le_refl _) _ _ _ _
end Go.Proofs.YtegmoeeeomjkgaaDoor
