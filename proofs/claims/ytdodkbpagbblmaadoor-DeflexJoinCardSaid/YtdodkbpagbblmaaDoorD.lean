import Derived.Test.YtdodkbpagbblmaaDoorB
namespace Go.Proofs.YtdodkbpagbblmaaDoor
open Go Go.RowKit

/-- A set and n bytes more, from f on. -/
def addN (s : BS) (f : Nat) : Nat → BS
  | 0 => s
  | n + 1 => withB (addN s f n) (f + n)

theorem addN_bit (s : BS) (f n j : Nat) (h : f + n ≤ 256) : (addN s f n).getLsbD j = (s.getLsbD j || decide (f ≤ j ∧ j < f + n)) := by
  induction n with
  | zero =>
    have : decide (f ≤ j ∧ j < f + 0) = false := decide_eq_false (by omega)
    rw [this]; simp [addN]
  | succ n ih =>
    rw [addN, withB_bit _ _ _ (by omega), ih (by omega), Bool.or_assoc]
    congr 1
    by_cases h1 : f + n = j
    · subst h1
      have : f ≤ f + n ∧ f + n < f + (n + 1) := by omega
      simp [this]
    · have : (f ≤ j ∧ j < f + (n + 1)) ↔ (f ≤ j ∧ j < f + n) := by omega
      simp [h1, this]

/-- A set and a range's bytes more. -/
def addR (s : BS) (r : Nat × Nat) : BS := addN s r.1 (r.2 + 1 - r.1)

theorem addR_bit (s : BS) (r : Nat × Nat) (j : Nat) (h2 : r.2 < 256) : (addR s r).getLsbD j = (s.getLsbD j || decide (r.1 ≤ j ∧ j ≤ r.2)) := by
  unfold addR
  by_cases h : r.1 ≤ r.2
  · rw [addN_bit _ _ _ _ (by omega)]
    have : (r.1 ≤ j ∧ j < r.1 + (r.2 + 1 - r.1)) ↔ (r.1 ≤ j ∧ j ≤ r.2) := by omega
    simp [this]
  · have e : r.2 + 1 - r.1 = 0 := by omega
    have : ¬ (r.1 ≤ j ∧ j ≤ r.2) := by omega
    rw [e]; simp [addN, this]

def zcs : Array Value := #[.int .u64 0, .int .u64 0, .int .u64 0, .int .u64 0]

set_option maxRecDepth 100000 in
set_option maxHeartbeats 2000000 in
theorem withRange_any (s : BS) (r : Nat × Nat) (h1 : r.1 < 256) (h2 : r.2 < 256) (w : World) :
    Calls Tryd.prog 60 #[vset s, .agg #[.int .u8 r.1, .int .u8 r.2]] w fun e w' => e = .returned (vset (addR s r)) ∧ Below w.heap.size w w' := by
  obtain ⟨f, t⟩ := r
  dsimp only at h1 h2 ⊢
  have HR : Hid (∀ n, t + 1 - f = n → addN s f n = addR s (f, t)) := fun n h => by subst h; rfl
  unfold vset
  go_enter Tryd.func60, Tryd.ntmps60
  go_wp2
  go_loopw [5] (fun i wr => ∃ b n : Nat, i = .int .i64 b ∧ Hid (b = f + n) ∧ b ≤ 256 ∧ Hid (b ≤ t + 1 ∨ n = 0) ∧ Hid (Blk wr w.heap.size 36 (cset (addN s f n))) ∧ Hid (Blk wr (w.heap.size + 1) 88 #[.int .u8 f, .int .u8 t]) ∧ Hid (Blk wr (w.heap.size + 1 + 1) 36 zcs) ∧ Hid (Below w.heap.size w wr))
    (fun i _ => 300 - (intOf i).toNat)
  case atStart =>
    refine ⟨f, 0, rfl, rfl, by omega, .inr rfl, ?_, ?_, ?_, ?_⟩
    · exact ((Blk.new w 36 _).alloc _).alloc _
    · have := (Blk.new (w.alloc (.cells #[.int .u64 (wdI s 0), .int .u64 (wdI s 1), .int .u64 (wdI s 2), .int .u64 (wdI s 3)] 36)) 88 #[.int .u8 f, .int .u8 t]).alloc (.cells #[.int .u64 0, .int .u64 0, .int .u64 0, .int .u64 0] 36)
      rw [World.size_alloc] at this
      exact this
    · have := Blk.new ((w.alloc (.cells #[.int .u64 (wdI s 0), .int .u64 (wdI s 1), .int .u64 (wdI s 2), .int .u64 (wdI s 3)] 36)).alloc (.cells #[.int .u8 f, .int .u8 t] 88)) 36 #[.int .u64 0, .int .u64 0, .int .u64 0, .int .u64 0]
      rw [World.size_alloc, World.size_alloc] at this
      exact this
    · exact (((Below.refl _ w).alloc (Nat.le_refl _) _).alloc (by simp) _).alloc (by simp; omega) _
  case round =>
    obtain ⟨b, n, rfl, hb, hb2, hn, hA, hR, hZ, hB⟩ := hrel
    have c0 : wr.cell? ⟨w.heap.size, 0, none⟩ = some (.int .u64 (wdI (addN s f n) 0)) := hA.out.cell 0
    have c1 : wr.cell? ⟨w.heap.size, 1, none⟩ = some (.int .u64 (wdI (addN s f n) 1)) := hA.out.cell 1
    have c2 : wr.cell? ⟨w.heap.size, 2, none⟩ = some (.int .u64 (wdI (addN s f n) 2)) := hA.out.cell 2
    have c3 : wr.cell? ⟨w.heap.size, 3, none⟩ = some (.int .u64 (wdI (addN s f n) 3)) := hA.out.cell 3
    have f0 : ∀ i, wr.frozen? ⟨w.heap.size, i, none⟩ = false := hA.out.frozen
    have r0 : wr.cell? ⟨w.heap.size + 1, 0, none⟩ = some (.int .u8 f) := hR.out.cell 0
    have r1 : wr.cell? ⟨w.heap.size + 1, 1, none⟩ = some (.int .u8 t) := hR.out.cell 1
    by_cases hle : b ≤ t
    · have hw : b < 256 := by omega
      have HW := Lib.hid (with_any (addN s f n) b hw)
      have hlt : w.heap.size + 2 < wr.heap.size := hZ.out.lt
      go_wp2_with fail
      refine (HW.out wr).mono ?_
      rintro e w1 ⟨rfl, hB1⟩
      have HN : Hid (withB (addN s f n) b = addN s f (n + 1)) := by rw [hb.out]; rfl
      have hA1 := Lib.hid (hA.out.below hB1 (by omega))
      have hR1 := Lib.hid (hR.out.below hB1 (by omega))
      have hZ1 := Lib.hid (hZ.out.below hB1 (by omega))
      have hBB := Lib.hid (hB.out.trans (hB1.mono hB.out.size))
      clear hA hR hZ hB hB1 c0 c1 c2 c3 f0 r0 r1 HW
      have c0 : w1.cell? ⟨w.heap.size, 0, none⟩ = some (.int .u64 (wdI (addN s f n) 0)) := hA1.out.cell 0
      have c1 : w1.cell? ⟨w.heap.size, 1, none⟩ = some (.int .u64 (wdI (addN s f n) 1)) := hA1.out.cell 1
      have c2 : w1.cell? ⟨w.heap.size, 2, none⟩ = some (.int .u64 (wdI (addN s f n) 2)) := hA1.out.cell 2
      have c3 : w1.cell? ⟨w.heap.size, 3, none⟩ = some (.int .u64 (wdI (addN s f n) 3)) := hA1.out.cell 3
      have f0 : ∀ i, w1.frozen? ⟨w.heap.size, i, none⟩ = false := hA1.out.frozen
      rw [HN.out]
      unfold vset
      go_wp2
      go_roundw
      case rel =>
        refine ⟨b + 1, n + 1, by go_num, by rw [hb.out]; rfl, by omega, .inl (by omega), ?_, ?_, ?_, ?_⟩
        · exact hA1.out.set4 _ _ _ _
        · exact (((hR1.out.other (by simp) _).other (by simp) _).other (by simp) _).other (by simp) _
        · exact (((hZ1.out.other (by simp; omega) _).other (by simp; omega) _).other (by simp; omega) _).other (by simp; omega) _
        · exact below_set4 hBB.out (Nat.le_refl _) _ _ _ _
      case measure => simp [intOf]; omega
    · have hEq : addN s f n = addR s (f, t) := HR.out n (by have := hb.out; have := hn.out; omega)
      have z0 : wr.cell? ⟨w.heap.size + 1 + 1, 0, none⟩ = some (.int .u64 0) := hZ.out.cell 0
      have z1 : wr.cell? ⟨w.heap.size + 1 + 1, 1, none⟩ = some (.int .u64 0) := hZ.out.cell 1
      have z2 : wr.cell? ⟨w.heap.size + 1 + 1, 2, none⟩ = some (.int .u64 0) := hZ.out.cell 2
      have z3 : wr.cell? ⟨w.heap.size + 1 + 1, 3, none⟩ = some (.int .u64 0) := hZ.out.cell 3
      have g0 : ∀ i, wr.frozen? ⟨w.heap.size + 1 + 1, i, none⟩ = false := hZ.out.frozen
      rw [hEq] at c0 c1 c2 c3
      go_wp2
      have hb2 := Blk.set4 hZ.out (.int .u64 (wdI (addR s (f, t)) 0)) (.int .u64 (wdI (addR s (f, t)) 1)) (.int .u64 (wdI (addR s (f, t)) 2)) (.int .u64 (wdI (addR s (f, t)) 3))
      have d0 := hb2.cell 0
      have d1 := hb2.cell 1
      have d2 := hb2.cell 2
      have d3 := hb2.cell 3
      refine bodyPost_ret (v := .agg #[.int .u64 (wdI (addR s (f, t)) 0), .int .u64 (wdI (addR s (f, t)) 1), .int .u64 (wdI (addR s (f, t)) 2), .int .u64 (wdI (addR s (f, t)) 3)]) (by simp [results, Tryd.results60, go_sem, d0, d1, d2, d3]) rfl ⟨rfl, ?_⟩
      exact below_set4 hB.out (by omega) _ _ _ _
end Go.Proofs.YtdodkbpagbblmaaDoor
