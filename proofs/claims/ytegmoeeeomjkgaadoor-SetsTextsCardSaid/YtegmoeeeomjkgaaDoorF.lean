import Derived.Test.YtegmoeeeomjkgaaDoorD
namespace Go.Proofs.YtegmoeeeomjkgaaDoor
open Go Go.RowKit

/-- Ranges as they lie behind a slice. -/
def RowR (w : World) (a : Option Addr) (rs : List (Nat × Nat)) : Prop :=
  ∀ (i : Nat) (x : Nat × Nat), rs[i]? = some x → ∃ b off, a = some ⟨b, off, none⟩ ∧ w.cell? ⟨b, off + i * 2, none⟩ = some (.int .u8 x.1) ∧ w.cell? ⟨b, off + i * 2 + 1, none⟩ = some (.int .u8 x.2)
def SmallR (rs : List (Nat × Nat)) : Prop := ∀ x ∈ rs, x.1 < 256 ∧ x.2 < 256

theorem lt_of_cell {w : World} {b i : Nat} {v : Value} (h : w.cell? ⟨b, i, none⟩ = some v) : b < w.heap.size := by
  unfold World.cell? at h
  by_cases hb : b < w.heap.size
  · exact hb
  · simp [Array.getElem?_eq_none (Nat.le_of_not_lt hb)] at h

theorem RowR.below {w w' : World} {a : Option Addr} {rs : List (Nat × Nat)} {n : Nat} (h : RowR w a rs) (hB : Below n w w') (hn : w.heap.size ≤ n) : RowR w' a rs := by
  intro i x hx
  obtain ⟨b, off, e, h1, h2⟩ := h i x hx
  have := lt_of_cell h1
  exact ⟨b, off, e, (hB.cell (p := ⟨b, _, none⟩) (show b < n by omega)).trans h1, (hB.cell (p := ⟨b, _, none⟩) (show b < n by omega)).trans h2⟩

/-- What the ranges make together; none where one is wrong. -/
def makeR (s : BS) : List (Nat × Nat) → Option BS
  | [] => some s
  | r :: rs => if r.2 < r.1 then none else makeR (addR s r) rs

theorem makeR_snoc (s : BS) (rs : List (Nat × Nat)) (r : Nat × Nat) (u : BS) (h : makeR s rs = some u) : makeR s (rs ++ [r]) = if r.2 < r.1 then none else some (addR u r) := by
  induction rs generalizing s with
  | nil => simp only [makeR, Option.some.injEq] at h; subst h; simp [makeR]
  | cons x rs ih =>
    simp only [makeR, List.cons_append] at h ⊢
    split at h
    · cases h
    · rename_i hx; rw [if_neg hx]; exact ih _ h

theorem makeR_none (s : BS) (rs qs : List (Nat × Nat)) (h : makeR s rs = none) : makeR s (rs ++ qs) = none := by
  induction rs generalizing s with
  | nil => simp [makeR] at h
  | cons x rs ih =>
    simp only [makeR, List.cons_append] at h ⊢
    split at h
    · rename_i hx; rw [if_pos hx]
    · rename_i hx; rw [if_neg hx]; exact ih _ h

/-- Make's answer. -/
def makeV (rs : List (Nat × Nat)) : Value :=
  match makeR 0#256 rs with
  | some s => .tuple #[vset s, .int .i64 0]
  | none => .tuple #[vset 0#256, .int .i64 4]

theorem below_at {n m : Nat} {w W : World} (h : Below n w W) (hm : m ≤ n) : Below m w W := h.mono hm

set_option maxRecDepth 100000 in
set_option maxHeartbeats 4000000 in
theorem make_any (a : Option Addr) (cap : Nat) (rs : List (Nat × Nat)) (w : World) (hd : RowR w a rs) (hs : SmallR rs) (hl : rs.length ≤ 281474976710656) :
    Calls Tryd.prog 11 #[.slice a rs.length cap] w fun e w' => e = .returned (makeV rs) ∧ Below w.heap.size w w' := by
  have HD := Lib.hid hd
  have HZ := Lib.hid vset_zero
  clear hd
  go_enter Tryd.func11, Tryd.ntmps11
  go_wp2
  go_loopw [9] (fun i wr => ∃ (k : Nat) (u : BS), i = .int .i64 k ∧ k ≤ rs.length ∧ Hid (makeR 0#256 (rs.take k) = some u) ∧ Hid (Blk wr w.heap.size 29 zcs) ∧ Hid (Blk wr (w.heap.size + 1) 29 (cset u)) ∧ Hid (Below w.heap.size w wr))
    (fun i _ => rs.length - (intOf i).toNat)
  case atStart =>
    refine ⟨0, 0#256, rfl, Nat.zero_le _, rfl, ?_, ?_, ?_⟩
    · exact (Blk.new w 29 zcs).alloc _
    · have h := Blk.new (w.alloc (.cells #[.int .u64 0, .int .u64 0, .int .u64 0, .int .u64 0] 29)) 29 #[.int .u64 0, .int .u64 0, .int .u64 0, .int .u64 0]
      rw [World.size_alloc] at h
      have e : cset 0#256 = zcs := by
        have h : ∀ i, i < 4 → wdI 0#256 i = 0 := by decide
        unfold cset zcs; rw [h 0 (by omega), h 1 (by omega), h 2 (by omega), h 3 (by omega)]
      rw [e]
      exact h
    · exact ((Below.refl _ w).alloc (Nat.le_refl _) _).alloc (by simp) _
  case round =>
    obtain ⟨k, u, rfl, hk, hm, hZ, hU, hB⟩ := hrel
    by_cases hlt : k < rs.length
    · have HX : Hid (rs[k]? = some rs[k]) := Lib.hid (List.getElem?_eq_getElem hlt)
      obtain ⟨x1, x2⟩ := hs rs[k] (List.getElem_mem hlt)
      obtain ⟨x, hx⟩ : ∃ x, rs[k] = x := ⟨_, rfl⟩
      rw [hx] at HX x1 x2
      have HMs : Hid (makeR 0#256 (rs.take (k + 1)) = if x.2 < x.1 then none else some (addR u x)) := by
        refine Lib.hid ?_
        rw [List.take_add_one, HX.out]; exact makeR_snoc _ _ _ _ hm.out
      clear hx
      obtain ⟨f, t⟩ := x
      dsimp only at x1 x2
      obtain ⟨b, off, rfl, e1, e2⟩ := HD.out k _ HX.out
      have bl : b < w.heap.size := lt_of_cell e1
      have r1 : wr.cell? ⟨b, off + k * 2, none⟩ = some (.int .u8 f) := (hB.out.cell (p := ⟨b, _, none⟩) bl).trans e1
      have r2 : wr.cell? ⟨b, off + k * 2 + 1, none⟩ = some (.int .u8 t) := (hB.out.cell (p := ⟨b, _, none⟩) bl).trans e2
      clear e1 e2
      by_cases hft : t < f
      · have z0 : ∀ o, (wr.alloc o).cell? ⟨w.heap.size, 0, none⟩ = some (.int .u64 0) := fun o => (Blk.alloc hZ.out o).cell 0
        have z1 : ∀ o, (wr.alloc o).cell? ⟨w.heap.size, 1, none⟩ = some (.int .u64 0) := fun o => (Blk.alloc hZ.out o).cell 1
        have z2 : ∀ o, (wr.alloc o).cell? ⟨w.heap.size, 2, none⟩ = some (.int .u64 0) := fun o => (Blk.alloc hZ.out o).cell 2
        have z3 : ∀ o, (wr.alloc o).cell? ⟨w.heap.size, 3, none⟩ = some (.int .u64 0) := fun o => (Blk.alloc hZ.out o).cell 3
        have fz : ∀ o i, (wr.alloc o).frozen? ⟨w.heap.size, i, none⟩ = false := fun o => (Blk.alloc hZ.out o).frozen
        have HV : makeV rs = .tuple #[.agg #[.int .u64 0, .int .u64 0, .int .u64 0, .int .u64 0], .int .i64 4] := by
          have h1 := HMs.out
          rw [if_pos hft] at h1
          have h2 := makeR_none _ _ (rs.drop (k + 1)) h1
          rw [List.take_append_drop] at h2
          unfold makeV; rw [h2, HZ.out]
        go_wp2
        have y := Blk.set4 (Blk.alloc hZ.out (.cells #[.int .u8 f, .int .u8 t] 26)) (.int .u64 0) (.int .u64 0) (.int .u64 0) (.int .u64 0)
        have y0 := y.cell 0
        have y1 := y.cell 1
        have y2 := y.cell 2
        have y3 := y.cell 3
        refine bodyPost_ret (v := .tuple #[.agg #[.int .u64 0, .int .u64 0, .int .u64 0, .int .u64 0], .int .i64 4]) (by simp [results, Tryd.results11, go_sem, y0, y1, y2, y3]) rfl ⟨by first | rfl | rw [HV], ?_⟩
        exact below_set4 (hB.out.alloc hB.out.size _) (Nat.le_refl _) _ _ _ _
      · have c0 : ∀ o, (wr.alloc o).cell? ⟨(w.heap.size + 1), 0, none⟩ = some (.int .u64 (wdI (u) 0)) := fun o => (Blk.alloc hU.out o).cell 0
        have c1 : ∀ o, (wr.alloc o).cell? ⟨(w.heap.size + 1), 1, none⟩ = some (.int .u64 (wdI (u) 1)) := fun o => (Blk.alloc hU.out o).cell 1
        have c2 : ∀ o, (wr.alloc o).cell? ⟨(w.heap.size + 1), 2, none⟩ = some (.int .u64 (wdI (u) 2)) := fun o => (Blk.alloc hU.out o).cell 2
        have c3 : ∀ o, (wr.alloc o).cell? ⟨(w.heap.size + 1), 3, none⟩ = some (.int .u64 (wdI (u) 3)) := fun o => (Blk.alloc hU.out o).cell 3
        have HW := Lib.hid (withRange_any u (f, t) x1 x2)
        have hlt2 : w.heap.size + 1 < wr.heap.size := hU.out.lt
        go_wp2_with fail
        refine (HW.out _).mono ?_
        rintro e w1 ⟨rfl, hB1⟩
        have hZ1 := Lib.hid ((hZ.out.alloc (.cells #[.int .u8 f, .int .u8 t] 26)).below hB1 (by simp; omega))
        have hU1 := Lib.hid ((hU.out.alloc (.cells #[.int .u8 f, .int .u8 t] 26)).below hB1 (by simp; omega))
        have hBB := Lib.hid ((hB.out.alloc hB.out.size (.cells #[.int .u8 f, .int .u8 t] 26)).trans (hB1.mono (by have := hB.out.size; simp; omega)))
        clear hZ hU hB hB1 c0 c1 c2 c3 HW r1 r2
        have c0 : w1.cell? ⟨(w.heap.size + 1), 0, none⟩ = some (.int .u64 (wdI (u) 0)) := Blk.cell hU1.out 0
        have c1 : w1.cell? ⟨(w.heap.size + 1), 1, none⟩ = some (.int .u64 (wdI (u) 1)) := Blk.cell hU1.out 1
        have c2 : w1.cell? ⟨(w.heap.size + 1), 2, none⟩ = some (.int .u64 (wdI (u) 2)) := Blk.cell hU1.out 2
        have c3 : w1.cell? ⟨(w.heap.size + 1), 3, none⟩ = some (.int .u64 (wdI (u) 3)) := Blk.cell hU1.out 3
        have fz : ∀ i, w1.frozen? ⟨(w.heap.size + 1), i, none⟩ = false := Blk.frozen hU1.out
        unfold vset
        go_wp2
        go_roundw
        case rel =>
          refine ⟨k + 1, addR u (f, t), by go_num, by omega, ?_, ?_, ?_, ?_⟩
          · refine Lib.hid ?_
            rw [HMs.out, if_neg hft]
          · exact (((hZ1.out.other (by simp) _).other (by simp) _).other (by simp) _).other (by simp) _
          · exact hU1.out.set4 _ _ _ _
          · exact below_set4 hBB.out (by omega) _ _ _ _
        case measure => simp [intOf]; omega
    · obtain rfl : k = rs.length := by omega
      have c0 : wr.cell? ⟨(w.heap.size + 1), 0, none⟩ = some (.int .u64 (wdI (u) 0)) := Blk.cell hU.out 0
      have c1 : wr.cell? ⟨(w.heap.size + 1), 1, none⟩ = some (.int .u64 (wdI (u) 1)) := Blk.cell hU.out 1
      have c2 : wr.cell? ⟨(w.heap.size + 1), 2, none⟩ = some (.int .u64 (wdI (u) 2)) := Blk.cell hU.out 2
      have c3 : wr.cell? ⟨(w.heap.size + 1), 3, none⟩ = some (.int .u64 (wdI (u) 3)) := Blk.cell hU.out 3
      have z0 : wr.cell? ⟨w.heap.size, 0, none⟩ = some (.int .u64 0) := Blk.cell hZ.out 0
      have z1 : wr.cell? ⟨w.heap.size, 1, none⟩ = some (.int .u64 0) := Blk.cell hZ.out 1
      have z2 : wr.cell? ⟨w.heap.size, 2, none⟩ = some (.int .u64 0) := Blk.cell hZ.out 2
      have z3 : wr.cell? ⟨w.heap.size, 3, none⟩ = some (.int .u64 0) := Blk.cell hZ.out 3
      have fz : ∀ i, wr.frozen? ⟨w.heap.size, i, none⟩ = false := Blk.frozen hZ.out
      have HV : makeV rs = .tuple #[.agg #[.int .u64 (wdI u 0), .int .u64 (wdI u 1), .int .u64 (wdI u 2), .int .u64 (wdI u 3)], .int .i64 0] := by
        have h1 := hm.out
        rw [List.take_length] at h1
        unfold makeV; rw [h1]; rfl
      go_wp2
      have y := Blk.set4 hZ.out (.int .u64 (wdI (u) 0)) (.int .u64 (wdI (u) 1)) (.int .u64 (wdI (u) 2)) (.int .u64 (wdI (u) 3))
      have y0 := y.cell 0
      have y1 := y.cell 1
      have y2 := y.cell 2
      have y3 := y.cell 3
      refine bodyPost_ret (v := .tuple #[.agg #[.int .u64 (wdI u 0), .int .u64 (wdI u 1), .int .u64 (wdI u 2), .int .u64 (wdI u 3)], .int .i64 0]) (by simp [results, Tryd.results11, go_sem, y0, y1, y2, y3]) rfl ⟨by first | rfl | rw [HV], ?_⟩
      exact below_set4 hB.out (Nat.le_refl _) _ _ _ _
end Go.Proofs.YtegmoeeeomjkgaaDoor
