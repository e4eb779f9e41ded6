import Derived.Lib.TrailingZeros
import Derived.Shelf.Strconv.ParseUint10
import Derived.Shelf.Abstract
import Derived.Shelf.RegionOpen
import Derived.OwnWalkIn
import Derived.TacticsInMore
import Derived.LoopNIn
import Derived.LoopIn
import Derived.RangeFuncBox
import Derived.Maps.AppendAt
import Derived.Lib.AppendStr
import Derived.Lib.OthersKept
import Derived.Lib.OwnKind
import Derived.OwnWalk
import Derived.Deep.AppendLies
import Derived.Deep.RegionLaw
import Derived.Test.YtdodkbpagbblmaaGreatDoorM1
import Derived.Test.YtdodkbpagbblmaaGreatDoorM2
section
namespace Go.Proofs.YtdodkbpagbblmaaGreatDoor
open Go Go.RowKit

/-- The bytes that have a \ ahead in a set's text. -/
def signB (b : Nat) : Bool := b == 92 || b == 91 || b == 93 || b == 45 || b == 94

theorem sign_all : ∀ b : Fin 256, decide (0 ≤ Lib.indexByte [92, 91, 93, 45, 94] b.val.toUInt8) = signB b.val := by decide +kernel

set_option maxHeartbeats 400000 in
theorem isSign_any (b : Nat) (hb : b < 256) (w : World) : Calls Tryz.prog 107 #[.int .u8 b] w fun e w' => e = .returned (.bool (signB b)) ∧ w = w' := by
  have h := sign_all ⟨b, hb⟩
  rw [← h]; clear h
  go_enter Tryz.func107, Tryz.ntmps107
  go_wp2_with (go_at_call 62; refine (Tryz.strings_IndexByte _ _ _).mono ?_; rintro e w' ⟨rfl, rfl⟩)
  go_ret
  exact ⟨by simp, rfl⟩

end Go.Proofs.YtdodkbpagbblmaaGreatDoor
end
section
namespace Go.Proofs.YtdodkbpagbblmaaGreatDoor
open Go Go.RowKit

/-- The places of the bits of a word, rising. -/
def wbits (w : Nat) : List Nat := (List.range' 0 64).filter (fun j => w.testBit j)

theorem filter_at (p q : Nat → Bool) (k n : Nat) (hk : k < n) (h0 : ∀ j, j < k → p j = false) (h1 : p k = true) (hq : ∀ j, q j = (p j && decide (j ≠ k))) :
    (List.range' 0 n).filter p = k :: (List.range' 0 n).filter q := by
  have e : List.range' 0 n = List.range' 0 k ++ (k :: List.range' (k + 1) (n - (k + 1))) := by
    have h2 : List.range' 0 n = List.range' 0 k ++ List.range' k (n - k) := by
      have := List.range'_append_1 (s := 0) (m := k) (n := n - k)
      rw [Nat.zero_add] at this
      rw [this]; congr 1; omega
    rw [h2]
    have h3 : n - k = (n - (k + 1)) + 1 := by omega
    rw [h3, List.range'_succ]
  have p0 : (List.range' 0 k).filter p = [] := by
    rw [List.filter_eq_nil_iff]; intro j hj
    rw [List.mem_range'_1] at hj
    rw [h0 j (by omega)]; simp
  have q0 : (List.range' 0 k).filter q = [] := by
    rw [List.filter_eq_nil_iff]; intro j hj
    rw [List.mem_range'_1] at hj
    rw [hq, h0 j (by omega)]; simp
  have qk : q k = false := by rw [hq]; simp
  rw [e, List.filter_append, List.filter_append, p0, q0, List.filter_cons, List.filter_cons, h1, qk]
  simp only [List.nil_append, if_true, Bool.false_eq_true, if_false]
  congr 1
  apply List.filter_congr
  intro j hj
  rw [List.mem_range'_1] at hj
  rw [hq]
  have : j ≠ k := by omega
  simp [this]

theorem bits_low (w : Nat) (h0 : w ≠ 0) (h : w < 2 ^ 64) : wbits w = Lib.ctz 64 w :: wbits (w &&& (w - 1)) ∧ Lib.ctz 64 w < 64 ∧ w &&& (w - 1) < w := by
  obtain ⟨m, hm, hk⟩ := Lib.ctzFrom_spec 64 w (by omega) h
  have hc : Lib.ctz 64 w = Lib.ctzFrom 64 w := by unfold Lib.ctz; simp [h0]
  rw [hc]
  generalize Lib.ctzFrom 64 w = k at hm hk
  have hp : 0 < 2 ^ k := Nat.two_pow_pos k
  have hw : ∀ j, w.testBit j = (decide (k ≤ j) && (2 * m + 1).testBit (j - k)) := by
    intro j; rw [hm, Nat.testBit_two_pow_mul]
  have hw1 : w - 1 = 2 ^ k * (2 * m) + (2 ^ k - 1) := by
    rw [hm, Nat.mul_add]; omega
  have hv : ∀ j, k ≤ j → (w - 1).testBit j = (2 * m).testBit (j - k) := by
    intro j hj
    rw [hw1, Nat.testBit_two_pow_mul_add _ (by omega)]
    simp [Nat.not_lt.2 hj]
  have hb0 : (2 * m + 1).testBit 0 = true := by simp [Nat.testBit_zero]
  have hb1 : (2 * m).testBit 0 = false := by simp [Nat.testBit_zero]
  have hs : ∀ n, (2 * m + 1).testBit (n + 1) = (2 * m).testBit (n + 1) := by
    intro n
    rw [Nat.testBit_succ, Nat.testBit_succ]
    congr 1; omega
  refine ⟨?_, hk, ?_⟩
  · refine filter_at _ _ k 64 hk ?_ ?_ ?_
    · intro j hj; rw [hw]; simp [Nat.not_le.2 hj]
    · rw [hw]; simp [hb0]
    · intro j
      rw [Nat.testBit_and]
      by_cases h1 : j < k
      · rw [hw]; simp [Nat.not_le.2 h1]
      · by_cases h2 : j = k
        · subst h2; rw [hv j (Nat.le_refl _)]; simp [hb1]
        · rw [hw, hv j (by omega)]
          obtain ⟨n, hn⟩ : ∃ n, j - k = n + 1 := ⟨j - k - 1, by omega⟩
          rw [hn, hs]
          simp [h2]
  · have h1 : w &&& (w - 1) ≤ w - 1 := Nat.and_le_right
    omega

theorem wbits_zero : wbits 0 = [] := by unfold wbits; rw [List.filter_eq_nil_iff]; simp
theorem wbits_lt (w j : Nat) (h : j ∈ wbits w) : j < 64 ∧ w.testBit j = true := by
  unfold wbits at h
  rw [List.mem_filter, List.mem_range'_1] at h
  exact ⟨by omega, h.2⟩

/-- A set's bytes, rising. -/
def bytesL (s : BS) : List Nat := (List.range' 0 256).filter (fun j => s.getLsbD j)

/-- The bytes of one word. -/
def wordL (s : BS) (i : Nat) : List Nat := (wbits (wd s i).toNat).map (64 * i + ·)
/-- Those of the words from the i-th on. -/
def restF (s : BS) : Nat → Nat → List Nat
  | 0, _ => []
  | n + 1, i => wordL s i ++ restF s n (i + 1)
def restW (s : BS) (i : Nat) : List Nat := restF s (4 - i) i
theorem restW_step (s : BS) (i : Nat) (h : i < 4) : restW s i = wordL s i ++ restW s (i + 1) := by
  unfold restW
  rw [show 4 - i = (4 - (i + 1)) + 1 by omega, restF]
theorem restW_end (s : BS) : restW s 4 = [] := rfl

theorem word_part (s : BS) (i : Nat) : (List.range' (64 * i) 64).filter (fun j => s.getLsbD j) = (wbits (wd s i).toNat).map (64 * i + ·) := by
  have e : List.range' (64 * i) 64 = (List.range' 0 64).map (64 * i + ·) := by
    rw [List.map_add_range']; simp
  rw [e, List.filter_map]
  congr 1
  unfold wbits
  apply List.filter_congr
  intro j hj
  rw [List.mem_range'_1] at hj
  show s.getLsbD (64 * i + j) = (wd s i).toNat.testBit j
  rw [← BitVec.getLsbD, wd_bit]
  simp [show j < 64 by omega]

theorem bytesL_words (s : BS) : bytesL s = restW s 0 := by
  rw [restW_step s 0 (by omega), restW_step s 1 (by omega), restW_step s 2 (by omega), restW_step s 3 (by omega), restW_end, List.append_nil]
  unfold wordL
  rw [← word_part, ← word_part, ← word_part, ← word_part, ← List.filter_append, ← List.filter_append, ← List.filter_append]
  have h3 : List.range' 128 64 ++ List.range' 192 64 = List.range' 128 128 := List.range'_append_1 (s := 128) (m := 64) (n := 64)
  have h2 : List.range' 64 64 ++ List.range' 128 128 = List.range' 64 192 := List.range'_append_1 (s := 64) (m := 64) (n := 128)
  have h1 : List.range' 0 64 ++ List.range' 64 192 = List.range' 0 256 := List.range'_append_1 (s := 0) (m := 64) (n := 192)
  simp only [Nat.reduceMul, Nat.reduceAdd]
  rw [h3, h2, h1]
  rfl

theorem mem_bytesL (s : BS) (b : Nat) : b ∈ bytesL s ↔ b < 256 ∧ s.getLsbD b = true := by
  unfold bytesL
  rw [List.mem_filter, List.mem_range'_1]
  constructor
  · rintro ⟨h1, h2⟩; exact ⟨by omega, h2⟩
  · rintro ⟨h1, h2⟩; exact ⟨by omega, h2⟩

theorem length_bytesL (s : BS) : (bytesL s).length ≤ 256 := by
  unfold bytesL
  refine Nat.le_trans (List.length_filter_le _ _) ?_
  rw [List.length_range']
  exact Nat.le_refl _

end Go.Proofs.YtdodkbpagbblmaaGreatDoor
end
section
namespace Go.Proofs.YtdodkbpagbblmaaGreatDoor
open Go Go.RowKit

/-- A set and n bytes more, from f on. -/
def addN (s : BS) (f : Nat) : Nat → BS
  | 0 => s
  | n + 1 => withB (addN s f n) (f + n)

theorem addN_bit (s : BS) (f n j : Nat) (h : f + n ≤ 256) : (addN s f n).getLsbD j = (s.getLsbD j || decide (f ≤ j ∧ j < f + n)) := by
  induction n with
  | zero =>
    have : decide (f ≤ j ∧ j < f + 0) = false := decide_eq_false (by omega)
    rw [this]; simp [addN]
  | succ n ih =>
    rw [addN, withB_bit _ _ _ (by omega), ih (by omega), Bool.or_assoc]
    congr 1
    by_cases h1 : f + n = j
    · subst h1
      have : f ≤ f + n ∧ f + n < f + (n + 1) := by omega
      simp [this]
    · have : (f ≤ j ∧ j < f + (n + 1)) ↔ (f ≤ j ∧ j < f + n) := by omega
      simp [h1, this]

/-- A set and a range's bytes more. -/
def addR (s : BS) (r : Nat × Nat) : BS := addN s r.1 (r.2 + 1 - r.1)

theorem addR_bit (s : BS) (r : Nat × Nat) (j : Nat) (h2 : r.2 < 256) : (addR s r).getLsbD j = (s.getLsbD j || decide (r.1 ≤ j ∧ j ≤ r.2)) := by
  unfold addR
  by_cases h : r.1 ≤ r.2
  · rw [addN_bit _ _ _ _ (by omega)]
    have : (r.1 ≤ j ∧ j < r.1 + (r.2 + 1 - r.1)) ↔ (r.1 ≤ j ∧ j ≤ r.2) := by omega
    simp [this]
  · have e : r.2 + 1 - r.1 = 0 := by omega
    have : ¬ (r.1 ≤ j ∧ j ≤ r.2) := by omega
    rw [e]; simp [addN, this]

def zcs : Array Value := #[.int .u64 0, .int .u64 0, .int .u64 0, .int .u64 0]

set_option maxRecDepth 100000 in
set_option maxHeartbeats 2000000 in
theorem withRange_any (s : BS) (r : Nat × Nat) (h1 : r.1 < 256) (h2 : r.2 < 256) (w : World) :
    Calls Tryz.prog 84 #[vset s, .agg #[.int .u8 r.1, .int .u8 r.2]] w fun e w' => e = .returned (vset (addR s r)) ∧ Below w.heap.size w w' := by
  obtain ⟨f, t⟩ := r
  dsimp only at h1 h2 ⊢
  have HR : Hid (∀ n, t + 1 - f = n → addN s f n = addR s (f, t)) := fun n h => by subst h; rfl
  unfold vset
  go_enter Tryz.func84, Tryz.ntmps84
  go_wp2
  go_loopw [5] (fun i wr => ∃ b n : Nat, i = .int .i64 b ∧ Hid (b = f + n) ∧ b ≤ 256 ∧ Hid (b ≤ t + 1 ∨ n = 0) ∧ Hid (Blk wr w.heap.size 33 (cset (addN s f n))) ∧ Hid (Blk wr (w.heap.size + 1) 103 #[.int .u8 f, .int .u8 t]) ∧ Hid (Blk wr (w.heap.size + 1 + 1) 33 zcs) ∧ Hid (Below w.heap.size w wr))
    (fun i _ => 300 - (intOf i).toNat)
  case atStart =>
    refine ⟨f, 0, rfl, rfl, by omega, .inr rfl, ?_, ?_, ?_, ?_⟩
    · exact ((Blk.new w 33 _).alloc _).alloc _
    · have := (Blk.new (w.alloc (.cells #[.int .u64 (wdI s 0), .int .u64 (wdI s 1), .int .u64 (wdI s 2), .int .u64 (wdI s 3)] 33)) 103 #[.int .u8 f, .int .u8 t]).alloc (.cells #[.int .u64 0, .int .u64 0, .int .u64 0, .int .u64 0] 33)
      rw [World.size_alloc] at this
      exact this
    · have := Blk.new ((w.alloc (.cells #[.int .u64 (wdI s 0), .int .u64 (wdI s 1), .int .u64 (wdI s 2), .int .u64 (wdI s 3)] 33)).alloc (.cells #[.int .u8 f, .int .u8 t] 103)) 33 #[.int .u64 0, .int .u64 0, .int .u64 0, .int .u64 0]
      rw [World.size_alloc, World.size_alloc] at this
      exact this
    · exact (((Below.refl _ w).alloc (Nat.le_refl _) _).alloc (by simp) _).alloc (by simp; omega) _
  case round =>
    obtain ⟨b, n, rfl, hb, hb2, hn, hA, hR, hZ, hB⟩ := hrel
    have c0 : wr.cell? ⟨w.heap.size, 0, none⟩ = some (.int .u64 (wdI (addN s f n) 0)) := hA.out.cell 0
    have c1 : wr.cell? ⟨w.heap.size, 1, none⟩ = some (.int .u64 (wdI (addN s f n) 1)) := hA.out.cell 1
    have c2 : wr.cell? ⟨w.heap.size, 2, none⟩ = some (.int .u64 (wdI (addN s f n) 2)) := hA.out.cell 2
    have c3 : wr.cell? ⟨w.heap.size, 3, none⟩ = some (.int .u64 (wdI (addN s f n) 3)) := hA.out.cell 3
    have f0 : ∀ i, wr.frozen? ⟨w.heap.size, i, none⟩ = false := hA.out.frozen
    have r0 : wr.cell? ⟨w.heap.size + 1, 0, none⟩ = some (.int .u8 f) := hR.out.cell 0
    have r1 : wr.cell? ⟨w.heap.size + 1, 1, none⟩ = some (.int .u8 t) := hR.out.cell 1
    by_cases hle : b ≤ t
    · have hw : b < 256 := by omega
      have HW := Lib.hid (with_any (addN s f n) b hw)
      have hlt : w.heap.size + 2 < wr.heap.size := hZ.out.lt
      go_wp2_with fail
      refine (HW.out wr).mono ?_
      rintro e w1 ⟨rfl, hB1⟩
      have HN : Hid (withB (addN s f n) b = addN s f (n + 1)) := by rw [hb.out]; rfl
      have hA1 := Lib.hid (hA.out.below hB1 (by omega))
      have hR1 := Lib.hid (hR.out.below hB1 (by omega))
      have hZ1 := Lib.hid (hZ.out.below hB1 (by omega))
      have hBB := Lib.hid (hB.out.trans (hB1.mono hB.out.size))
      clear hA hR hZ hB hB1 c0 c1 c2 c3 f0 r0 r1 HW
      have c0 : w1.cell? ⟨w.heap.size, 0, none⟩ = some (.int .u64 (wdI (addN s f n) 0)) := hA1.out.cell 0
      have c1 : w1.cell? ⟨w.heap.size, 1, none⟩ = some (.int .u64 (wdI (addN s f n) 1)) := hA1.out.cell 1
      have c2 : w1.cell? ⟨w.heap.size, 2, none⟩ = some (.int .u64 (wdI (addN s f n) 2)) := hA1.out.cell 2
      have c3 : w1.cell? ⟨w.heap.size, 3, none⟩ = some (.int .u64 (wdI (addN s f n) 3)) := hA1.out.cell 3
      have f0 : ∀ i, w1.frozen? ⟨w.heap.size, i, none⟩ = false := hA1.out.frozen
      rw [HN.out]
      unfold vset
      go_wp2
      go_roundw
      case rel =>
        refine ⟨b + 1, n + 1, by go_num, by rw [hb.out]; rfl, by omega, .inl (by omega), ?_, ?_, ?_, ?_⟩
        · exact hA1.out.set4 _ _ _ _
        · exact (((hR1.out.other (by simp) _).other (by simp) _).other (by simp) _).other (by simp) _
        · exact (((hZ1.out.other (by simp; omega) _).other (by simp; omega) _).other (by simp; omega) _).other (by simp; omega) _
        · exact below_set4 hBB.out (Nat.le_refl _) _ _ _ _
      case measure => simp [intOf]; omega
    · have hEq : addN s f n = addR s (f, t) := HR.out n (by have := hb.out; have := hn.out; omega)
      have z0 : wr.cell? ⟨w.heap.size + 1 + 1, 0, none⟩ = some (.int .u64 0) := hZ.out.cell 0
      have z1 : wr.cell? ⟨w.heap.size + 1 + 1, 1, none⟩ = some (.int .u64 0) := hZ.out.cell 1
      have z2 : wr.cell? ⟨w.heap.size + 1 + 1, 2, none⟩ = some (.int .u64 0) := hZ.out.cell 2
      have z3 : wr.cell? ⟨w.heap.size + 1 + 1, 3, none⟩ = some (.int .u64 0) := hZ.out.cell 3
      have g0 : ∀ i, wr.frozen? ⟨w.heap.size + 1 + 1, i, none⟩ = false := hZ.out.frozen
      rw [hEq] at c0 c1 c2 c3
      go_wp2
      have hb2 := Blk.set4 hZ.out (.int .u64 (wdI (addR s (f, t)) 0)) (.int .u64 (wdI (addR s (f, t)) 1)) (.int .u64 (wdI (addR s (f, t)) 2)) (.int .u64 (wdI (addR s (f, t)) 3))
      have d0 := hb2.cell 0
      have d1 := hb2.cell 1
      have d2 := hb2.cell 2
      have d3 := hb2.cell 3
      refine bodyPost_ret (v := .agg #[.int .u64 (wdI (addR s (f, t)) 0), .int .u64 (wdI (addR s (f, t)) 1), .int .u64 (wdI (addR s (f, t)) 2), .int .u64 (wdI (addR s (f, t)) 3)]) (by simp [results, Tryz.results84, go_sem, d0, d1, d2, d3]) rfl ⟨rfl, ?_⟩
      exact below_set4 hB.out (by omega) _ _ _ _
end Go.Proofs.YtdodkbpagbblmaaGreatDoor
end
section
namespace Go.Proofs.YtdodkbpagbblmaaGreatDoor
open Go Go.RowKit

/-- Ranges as they lie behind a slice. -/
def RowR (w : World) (a : Option Addr) (rs : List (Nat × Nat)) : Prop :=
  ∀ (i : Nat) (x : Nat × Nat), rs[i]? = some x → ∃ b off, a = some ⟨b, off, none⟩ ∧ w.cell? ⟨b, off + i * 2, none⟩ = some (.int .u8 x.1) ∧ w.cell? ⟨b, off + i * 2 + 1, none⟩ = some (.int .u8 x.2)
def SmallR (rs : List (Nat × Nat)) : Prop := ∀ x ∈ rs, x.1 < 256 ∧ x.2 < 256

theorem lt_of_cell {w : World} {b i : Nat} {v : Value} (h : w.cell? ⟨b, i, none⟩ = some v) : b < w.heap.size := by
  unfold World.cell? at h
  by_cases hb : b < w.heap.size
  · exact hb
  · simp [Array.getElem?_eq_none (Nat.le_of_not_lt hb)] at h

theorem RowR.below {w w' : World} {a : Option Addr} {rs : List (Nat × Nat)} {n : Nat} (h : RowR w a rs) (hB : Below n w w') (hn : w.heap.size ≤ n) : RowR w' a rs := by
  intro i x hx
  obtain ⟨b, off, e, h1, h2⟩ := h i x hx
  have := lt_of_cell h1
  exact ⟨b, off, e, (hB.cell (p := ⟨b, _, none⟩) (show b < n by omega)).trans h1, (hB.cell (p := ⟨b, _, none⟩) (show b < n by omega)).trans h2⟩

/-- What the ranges make together; none where one is wrong. -/
def makeR (s : BS) : List (Nat × Nat) → Option BS
  | [] => some s
  | r :: rs => if r.2 < r.1 then none else makeR (addR s r) rs

theorem makeR_snoc (s : BS) (rs : List (Nat × Nat)) (r : Nat × Nat) (u : BS) (h : makeR s rs = some u) : makeR s (rs ++ [r]) = if r.2 < r.1 then none else some (addR u r) := by
  induction rs generalizing s with
  | nil => simp only [makeR, Option.some.injEq] at h; subst h; simp [makeR]
  | cons x rs ih =>
    simp only [makeR, List.cons_append] at h ⊢
    split at h
    · cases h
    · rename_i hx; rw [if_neg hx]; exact ih _ h

theorem makeR_none (s : BS) (rs qs : List (Nat × Nat)) (h : makeR s rs = none) : makeR s (rs ++ qs) = none := by
  induction rs generalizing s with
  | nil => simp [makeR] at h
  | cons x rs ih =>
    simp only [makeR, List.cons_append] at h ⊢
    split at h
    · rename_i hx; rw [if_pos hx]
    · rename_i hx; rw [if_neg hx]; exact ih _ h

/-- Make's answer. -/
def makeV (rs : List (Nat × Nat)) : Value :=
  match makeR 0#256 rs with
  | some s => .tuple #[vset s, .int .i64 0]
  | none => .tuple #[vset 0#256, .int .i64 4]

theorem below_at {n m : Nat} {w W : World} (h : Below n w W) (hm : m ≤ n) : Below m w W := h.mono hm

end Go.Proofs.YtdodkbpagbblmaaGreatDoor
end
section
namespace Go.Proofs.YtdodkbpagbblmaaGreatDoor
open Go Go.RowKit

/-- A digit to the base 16. -/
def hexD (c : Nat) : Option Nat := if 48 ≤ c ∧ c ≤ 57 then some (c - 48) else if 97 ≤ (c ||| 32) ∧ (c ||| 32) ≤ 102 then some ((c ||| 32) - 87) else none
def hexs : Nat → List UInt8 → Option Nat
  | acc, [] => some acc
  | acc, c :: l => match hexD c.toNat with
    | none => none
    | some d => hexs (acc * 16 + d) l

def hexV : Option Nat → Value
  | some n => .tuple #[.int .u64 n, .nilIface]
  | none => .tuple #[.int .u64 0, .iface 122 (.int .i64 2)]

set_option maxHeartbeats 32000000 in
set_option maxRecDepth 100000 in
theorem parseHex_any (t : ByteArray) (h2 : t.size = 2) (w : World) :
    Calls Tryz.prog 115 #[.string t, .int .i64 16, .int .i64 8] w fun e w' => e = .returned (hexV (hexs 0 t.data.toList)) ∧ Below w.heap.size w w' := by
  have hemp : t.toList.isEmpty = false := by
    rw [← decide_eq_emptyBytes]
    exact decide_eq_false (fun h => by rw [h] at h2; cases h2)
  have hcv := Lib.run_convert_string_bytes (P := Tryz.prog) w 9 58 5 t (u := .string) Tryz.underlying9 Tryz.underlying58 Tryz.underlying5
  have hB : ∀ j, j < t.size → (Lib.bytesWorld w 5 t).cell? ⟨w.heap.size, j, none⟩ = some (.int .u8 (t.data.toList.getD j 0).toNat) := fun j hj => Lib.bytesWorld_cell w 5 t j hj
  have hBel : Hid (Below w.heap.size w (Lib.bytesWorld w 5 t)) := Lib.bytesWorld_below w 5 t
  obtain ⟨W1, hW1⟩ : ∃ W1, W1 = Lib.bytesWorld w 5 t := ⟨_, rfl⟩
  rw [← hW1] at hcv hB hBel
  clear hW1
  obtain ⟨bs, hL⟩ : ∃ bs, bs = t.data.toList := ⟨_, rfl⟩
  have hLn : bs.length = t.size := by rw [hL, Lib.size_eq]
  rw [← hL] at hB ⊢
  clear hL
  go_enter Tryz.func115, Tryz.ntmps115
  go_wp2
  go_loop [12, 13, 101] (fun vu vn vi => ∃ (k acc : Nat) (a : Int), vu = .bool false ∧ vn = .int .u64 a ∧ vi = .int .i64 k ∧ k ≤ t.size ∧ Hid (a = (acc : Int) ∧ acc < 16 ^ k ∧ hexs 0 bs = hexs acc (bs.drop k)))
    (fun _ _ vi => t.size - (intOf vi).toNat)
  case atStart => exact ⟨0, 0, 0, rfl, rfl, rfl, by omega, rfl, by omega, rfl⟩
  case round =>
    obtain ⟨k, acc, a, rfl, rfl, rfl, hk, hh⟩ := hrel
    obtain ⟨ha, hacc, hdec⟩ := hh.out
    clear hh
    have hacc2 : acc < 256 ∧ (k < 2 → acc < 16) := by
      have : k = 0 ∨ k = 1 ∨ k = 2 := by omega
      rcases this with rfl | rfl | rfl <;> simp at hacc <;> omega
    obtain ⟨hacc2, hacc3⟩ := hacc2
    by_cases hkn : k < t.size
    · have hc := hB k hkn
      have hdrop : bs.drop k = bs[k]'(by omega) :: bs.drop (k + 1) := List.drop_eq_getElem_cons (by omega)
      have hget : bs.getD k 0 = bs[k]'(by omega) := by simp [List.getD, List.getElem?_eq_getElem (show k < bs.length by omega)]
      rw [hdrop] at hdec
      rw [hget] at hc
      generalize bs[k]'(by omega) = c at hc hdec
      have hc256 : c.toNat < 256 := c.toNat_lt
      have hacc4 : acc < 16 := hacc3 (by omega)
      have a0 : 0 ≤ a := by omega
      have a1 : a < 16 := by omega
      have hpow : ∀ d, d < 16 → acc * 16 + d < 16 ^ (k + 1) := by
        intro d hd
        rw [Nat.pow_succ]
        have : acc + 1 ≤ 16 ^ k := hacc
        generalize 16 ^ k = Q at this
        omega
      clear hB hdrop hget hacc3
      by_cases hdig : 48 ≤ c.toNat ∧ c.toNat ≤ 57
      · obtain ⟨hd0, hd1⟩ := hdig
        have hF : hexs acc (c :: bs.drop (k + 1)) = hexs (acc * 16 + (c.toNat - 48)) (bs.drop (k + 1)) := by simp [hexs, hexD, hd0, hd1]
        have HN : Hid (a * 16 + ((c.toNat : Int) - 48) = ((acc * 16 + (c.toNat - 48) : Nat) : Int) ∧ acc * 16 + (c.toNat - 48) < 16 ^ (k + 1) ∧ hexs 0 bs = hexs (acc * 16 + (c.toNat - 48)) (bs.drop (k + 1))) := Lib.hid ⟨by omega, hpow _ (by omega), hdec.trans hF⟩
        have iov : a * 16 + ((c.toNat : Int) - 48) < 256 := by omega
        clear hacc hacc2 hacc4 hF hdec ha hpow
        go_wp2
        exact ⟨⟨k + 1, acc * 16 + (c.toNat - 48), _, rfl, rfl, by go_num, by omega, HN⟩, by simp [intOf]; omega⟩
      · have hlow : bits .or .u8 (c.toNat : Int) 32 = ((c.toNat ||| 32 : Nat) : Int) := u8_or_nat c.toNat 32 hc256 (by omega)
        have hu : bits .or .u8 95 32 = 127 := by decide
        have hl256 : c.toNat ||| 32 < 256 := Nat.or_lt_two_pow (n := 8) (by omega) (by omega)
        have hD : hexD c.toNat = if 97 ≤ (c.toNat ||| 32) ∧ (c.toNat ||| 32) ≤ 102 then some ((c.toNat ||| 32) - 87) else none := by simp [hexD, hdig]
        have hF : hexs acc (c :: bs.drop (k + 1)) = match hexD c.toNat with | none => none | some d => hexs (acc * 16 + d) (bs.drop (k + 1)) := rfl
        rw [hD] at hF
        clear hD
        generalize c.toNat ||| 32 = lc at hlow hl256 hF
        have hdigI : ¬ (48 ≤ (c.toNat : Int) ∧ (c.toNat : Int) ≤ 57) := by omega
        by_cases hin : 97 ≤ lc ∧ lc ≤ 102
        · rw [if_pos hin] at hF
          obtain ⟨h97, h102⟩ := hin
          have h95 : ¬ (c.toNat : Int) = 95 := by
            intro h; rw [h, hu] at hlow; omega
          have HN : Hid (a * 16 + ((lc : Int) - 97 + 10) = ((acc * 16 + (lc - 87) : Nat) : Int) ∧ acc * 16 + (lc - 87) < 16 ^ (k + 1) ∧ hexs 0 bs = hexs (acc * 16 + (lc - 87)) (bs.drop (k + 1))) := Lib.hid ⟨by omega, hpow _ (by omega), hdec.trans hF⟩
          have iov : a * 16 + ((lc : Int) - 97 + 10) < 256 := by omega
          clear hacc hacc2 hacc4 hF hdec ha hpow
          by_cases h48 : 48 ≤ c.toNat
          · have h57 : ¬ c.toNat ≤ 57 := fun h => hdig ⟨h48, h⟩
            go_wp2_with (go_at_call 124; refine (Tryz.internal_strconv_lower _ _).mono ?_; rintro e w' ⟨rfl, rfl⟩)
            all_goals exact ⟨⟨k + 1, acc * 16 + (lc - 87), _, rfl, rfl, by go_num, by omega, HN⟩, by simp [intOf]; omega⟩
          · go_wp2_with (go_at_call 124; refine (Tryz.internal_strconv_lower _ _).mono ?_; rintro e w' ⟨rfl, rfl⟩)
            all_goals exact ⟨⟨k + 1, acc * 16 + (lc - 87), _, rfl, rfl, by go_num, by omega, HN⟩, by simp [intOf]; omega⟩
        · rw [if_neg hin] at hF
          have HX : hexV (hexs 0 bs) = .tuple #[.int .u64 0, .iface 122 (.int .i64 2)] := by rw [hdec, hF]; rfl
          have HX := Lib.hid HX
          clear hacc hacc2 hacc4 hF hdec ha hpow
          by_cases h48 : 48 ≤ c.toNat
          · have h57 : ¬ c.toNat ≤ 57 := fun h => hdig ⟨h48, h⟩
            go_wp2_with (go_at_call 124; refine (Tryz.internal_strconv_lower _ _).mono ?_; rintro e w' ⟨rfl, rfl⟩)
            all_goals go_ret2
            all_goals exact ⟨by first | rfl | (rw [HX.out]; rfl), hBel.out⟩
          · go_wp2_with (go_at_call 124; refine (Tryz.internal_strconv_lower _ _).mono ?_; rintro e w' ⟨rfl, rfl⟩)
            all_goals go_ret2
            all_goals exact ⟨by first | rfl | (rw [HX.out]; rfl), hBel.out⟩
    · have hkk : k = t.size := by omega
      subst hkk
      have hF : hexs acc (bs.drop t.size) = some acc := by rw [List.drop_eq_nil_of_le (by omega)]; rfl
      rw [hF] at hdec
      subst ha
      clear hacc hacc2 hacc3 hF
      go_wp2
      go_ret2
      exact ⟨rfl, hBel.out⟩
end Go.Proofs.YtdodkbpagbblmaaGreatDoor
end
section
namespace Go.Proofs.YtdodkbpagbblmaaGreatDoor
open Go Go.RowKit

/-- What the program's variables hold: the table, and the error of a text that is no number. -/
def Glob (w : World) : Prop := TabAt 3 Lib.deBruijn64tab w ∧ ∃ ev, w.cell? ⟨1, 0, none⟩ = some ev ∧ (ev = .nilIface ∨ ∃ te pe, ev = .iface te pe)

theorem Glob.below {w w' : World} {n : Nat} (h : Glob w) (hn : w.heap.size ≤ n) (hB : Below n w w') : Glob w' := by
  obtain ⟨h1, ev, h2, h3⟩ := h
  refine ⟨fun j hj => ?_, ev, ?_, h3⟩
  · have := h1 j hj
    exact (hB.cell (p := ⟨3, j, none⟩) (Nat.lt_of_lt_of_le (lt_of_cell this) hn)).trans this
  · exact (hB.cell (p := ⟨1, 0, none⟩) (Nat.lt_of_lt_of_le (lt_of_cell h2) hn)).trans h2

def numPost (o : Option Nat) (w : World) (e : Ending) (w' : World) : Prop :=
  Below w.heap.size w w' ∧ match o with
    | some n => e = .returned (.tuple #[.int .u64 n, .nilIface])
    | none => ∃ N, e = .returned (.tuple #[.int .u64 0, .iface 125 (.pointer (some ⟨N, 0, none⟩))])

set_option maxRecDepth 100000 in
set_option maxHeartbeats 2000000 in
theorem parseUint_any (t : ByteArray) (h2 : t.size = 2) (w : World) (hG : Glob w) :
    Calls Tryz.prog 100 #[.string t, .int .i64 16, .int .i64 8] w (numPost (hexs 0 t.data.toList) w) := by
  have HG := Lib.hid hG
  clear hG
  have HP := Lib.hid (parseHex_any t h2 w)
  obtain ⟨o, ho⟩ : ∃ o, o = hexs 0 t.data.toList := ⟨_, rfl⟩
  rw [← ho] at HP ⊢
  clear ho
  go_enter Tryz.func100, Tryz.ntmps100
  go_wp2_with fail
  refine HP.out.mono ?_
  rintro e w1 ⟨rfl, hB⟩
  have HB := Lib.hid hB
  cases o with
  | some n =>
    clear hB HP
    unfold hexV
    go_wp2
    go_ret2
    exact ⟨HB.out, rfl⟩
  | none =>
    obtain ⟨ev, e1, e2⟩ := (HG.out.below (Nat.le_refl _) hB).2
    have HT := Lib.hid (Tryz.strconv_toError_syntax ⟨#[80, 97, 114, 115, 101, 85, 105, 110, 116]⟩ t 16 8 ev w1 (by omega) e1 e2)
    clear hB HP e1 e2
    unfold hexV
    go_wp2_with fail
    refine HT.out.mono ?_
    rintro e w2 ⟨N, rfl, hN, _, hB2⟩
    have HB2 := Lib.hid (HB.out.trans (hB2.mono HB.out.size))
    clear hB2
    go_wp2
    go_ret2
    exact ⟨HB2.out, N, rfl⟩

/-- What an escape at a text's beginning says, and how long it is. -/
def escB : List UInt8 → Nat × Nat
  | _ :: b :: r =>
    if b.toNat = 116 then (9, 2) else if b.toNat = 110 then (10, 2) else if b.toNat = 114 then (13, 2) else if signB b.toNat then (b.toNat, 2)
    else if b.toNat = 120 ∧ 2 ≤ r.length then (match hexs 0 (r.take 2) with
      | some n => (n % 256, 4)
      | none => (0, 0))
    else (0, 0)
  | _ => (0, 0)

set_option maxRecDepth 100000 in
set_option maxHeartbeats 4000000 in
theorem readEscape_any (s : ByteArray) (hs : s.size ≤ 140737488351232) (w : World) (hG : Glob w) :
    Calls Tryz.prog 117 #[.string s] w fun e w' => e = .returned (.tuple #[.int .u8 (escB s.data.toList).1, .int .i64 (escB s.data.toList).2]) ∧ Below w.heap.size w w' := by
  have HG := Lib.hid hG
  clear hG
  by_cases h2 : s.size < 2
  · have hE : escB s.data.toList = (0, 0) := by
      have : s.data.toList.length < 2 := by rw [← Lib.size_eq]; exact h2
      generalize s.data.toList = l at this
      match l, this with
      | [], _ => rfl
      | [_], _ => rfl
    rw [hE]
    go_enter Tryz.func117, Tryz.ntmps117
    go_wp2
    go_ret2
    exact ⟨rfl, Below.refl _ _⟩
  · obtain ⟨b, hb⟩ : ∃ b, b = (s[1]'(by omega)).toNat := ⟨_, rfl⟩
    have hb256 : b < 256 := by rw [hb]; exact (s[1]'(by omega)).toNat_lt
    have hi : ∀ h, (s[1]'h).toNat = b := fun h => hb.symm
    have HE : Hid (escB s.data.toList = if b = 116 then (9, 2) else if b = 110 then (10, 2) else if b = 114 then (13, 2) else if signB b then (b, 2)
        else if b = 120 ∧ 4 ≤ s.size then (match hexs 0 (s.extract 2 4).data.toList with
          | some n => (n % 256, 4)
          | none => (0, 0))
        else (0, 0)) := by
      refine Lib.hid ?_
      have hl : ∃ x y r, s.data.toList = x :: y :: r := by
        have : 2 ≤ s.data.toList.length := by rw [← Lib.size_eq]; omega
        match s.data.toList, this with
        | x :: y :: r, _ => exact ⟨x, y, r, rfl⟩
      obtain ⟨x, y, r, hl⟩ := hl
      have hy : b = y.toNat := by
        rw [hb]
        show (s.data[1]'_).toNat = _
        rw [← Array.getElem_toList]
        simp [hl]
      have hr : (s.extract 2 4).data.toList = r.take 2 := by
        rw [ByteArray.data_extract, Array.toList_extract, List.extract_eq_take_drop, hl]
        rfl
      have hz : 4 ≤ s.size ↔ 2 ≤ r.length := by rw [Lib.size_eq, hl]; simp
      rw [hl, hy, hr]
      simp only [escB, hz]
    clear hb
    have HS := fun w' => Lib.hid (isSign_any b hb256 w')
    by_cases c1 : b = 116
    · have hE : escB s.data.toList = (9, 2) := by rw [HE.out, if_pos c1]
      rw [hE]
      subst c1
      go_enter Tryz.func117, Tryz.ntmps117
      go_wp2
      go_ret2
      exact ⟨rfl, Below.refl _ _⟩
    · by_cases c2 : b = 110
      · have hE : escB s.data.toList = (10, 2) := by rw [HE.out, if_neg c1, if_pos c2]
        rw [hE]
        subst c2
        go_enter Tryz.func117, Tryz.ntmps117
        go_wp2
        go_ret2
        exact ⟨rfl, Below.refl _ _⟩
      · by_cases c3 : b = 114
        · have hE : escB s.data.toList = (13, 2) := by rw [HE.out, if_neg c1, if_neg c2, if_pos c3]
          rw [hE]
          subst c3
          go_enter Tryz.func117, Tryz.ntmps117
          go_wp2
          go_ret2
          exact ⟨rfl, Below.refl _ _⟩
        · have d1 : ¬ (b : Int) = 116 := by omega
          have d2 : ¬ (b : Int) = 110 := by omega
          have d3 : ¬ (b : Int) = 114 := by omega
          cases hsg : signB b with
          | true =>
            have hE : escB s.data.toList = (b, 2) := by rw [HE.out, if_neg c1, if_neg c2, if_neg c3, if_pos hsg]
            rw [hE]
            clear HE hE
            go_enter Tryz.func117, Tryz.ntmps117
            go_wp2_with (go_at_call 107; refine (HS _).out.mono ?_; rintro e w' ⟨rfl, rfl⟩)
            go_ret2
            exact ⟨rfl, Below.refl _ _⟩
          | false =>
            by_cases c5 : b = 120 ∧ 4 ≤ s.size
            · obtain ⟨c5, c6⟩ := c5
              have hE : escB s.data.toList = (match hexs 0 (s.extract 2 4).data.toList with
                  | some n => (n % 256, 4)
                  | none => (0, 0)) := by rw [HE.out, if_neg c1, if_neg c2, if_neg c3, hsg, if_neg (by simp), if_pos ⟨c5, c6⟩]
              rw [hE]
              clear HE hE
              have hx2 : (s.extract 2 4).size = 2 := by rw [ByteArray.size_extract]; omega
              have HP := Lib.hid (parseUint_any (s.extract 2 4) hx2 w HG.out)
              obtain ⟨o, ho⟩ : ∃ o, o = hexs 0 (s.extract 2 4).data.toList := ⟨_, rfl⟩
              rw [← ho] at HP ⊢
              clear ho hx2
              subst c5
              go_enter Tryz.func117, Tryz.ntmps117
              go_wp2_with (first | (go_at_call 107; refine (HS _).out.mono ?_; rintro e w' ⟨rfl, rfl⟩) | fail)
              refine HP.out.mono ?_
              rintro e w1 ⟨hB, he⟩
              have HB := Lib.hid hB
              clear hB HP
              cases o with
              | some n =>
                dsimp only at he
                subst he
                go_wp2
                go_ret2
                exact ⟨by simp, HB.out⟩
              | none =>
                dsimp only at he
                obtain ⟨N, rfl⟩ := he
                go_wp2
                go_ret2
                exact ⟨rfl, HB.out⟩
            · have hE : escB s.data.toList = (0, 0) := by rw [HE.out, if_neg c1, if_neg c2, if_neg c3, hsg, if_neg (by simp), if_neg c5]
              rw [hE]
              clear HE hE
              by_cases c6 : b = 120
              · have c7 : ¬ 4 ≤ s.size := fun h => c5 ⟨c6, h⟩
                subst c6
                go_enter Tryz.func117, Tryz.ntmps117
                go_wp2_with (go_at_call 107; refine (HS _).out.mono ?_; rintro e w' ⟨rfl, rfl⟩)
                go_ret2
                exact ⟨rfl, Below.refl _ _⟩
              · have d5 : ¬ (b : Int) = 120 := by omega
                go_enter Tryz.func117, Tryz.ntmps117
                go_wp2_with (go_at_call 107; refine (HS _).out.mono ?_; rintro e w' ⟨rfl, rfl⟩)
                go_ret2
                exact ⟨rfl, Below.refl _ _⟩
end Go.Proofs.YtdodkbpagbblmaaGreatDoor
end
section
namespace Go.Proofs.YtdodkbpagbblmaaGreatDoor
open Go Go.RowKit Go.Shelf

attribute [local go_sem] Oper.semAt_some

/-- A round keeps the program's table. -/
def KpG (W W' : World) : Prop := ∀ j v, W.cell? ⟨3, j, none⟩ = some v → W'.cell? ⟨3, j, none⟩ = some v
theorem kpG_t {A B C : World} (h : KpG A B) (k : KpG B C) : KpG A C := fun j v hv => k j v (h j v hv)
theorem kpG_b {w : World} (W : World) (l : Nat) (o o' : Obj) (_ : w.heap.size ≤ l) (h : W.heap[l]? = some o) (hc : o.isCells = false) (_ : o.isWalk = false) : KpG W (W.putObj l o') :=
  fun _ _ hv => cell_kept hv (grownBy_putObj' W l o') (fun r e => by cases e; exact ⟨o, h, hc⟩)
theorem KpG.refl (W : World) : KpG W W := fun _ _ h => h
theorem KpG.tab {W W' : World} (h : KpG W W') (hT : TabAt 3 Lib.deBruijn64tab W) : TabAt 3 Lib.deBruijn64tab W' := fun j hj => h _ _ (hT j hj)
theorem KpG.below {W W' : World} {n : Nat} (h : Below n W W') (hn : 3 < n) : KpG W W' := fun j v hv => (h.cell (p := ⟨3, j, none⟩) hn).trans hv

set_option maxRecDepth 100000 in
set_option maxHeartbeats 4000000 in
theorem bytes1_in (n : Nat) (hn : 1 ≤ n) (l Bn : Nat) (s : BS) (J Jx : List Nat → World → Prop)
    (hY : ∀ pre (x : Nat) W, x < 256 → J pre W → pre.length < (bytesL s).length → YieldAt Fence.wide (n - 1) Tryz.prog l #[.int .u8 x] W fun e W' =>
      (e = .returned (.bool true) ∧ J (pre ++ [x]) W' ∧ KpG W W') ∨ (e = .returned (.bool false) ∧ Jx (pre ++ [x]) W'))
    (W : World) (hBn : ∀ i, W.cell? ⟨Bn, i, none⟩ = (cset s)[i]?) (hT : TabAt 3 Lib.deBruijn64tab W) (h0 : J [] W) :
    CallsIn Fence.wide n Tryz.prog 105 #[.func (.yield l) #[] #[], .pointer (some ⟨Bn, 0, none⟩)] W fun e W' => (∃ v, e = .returned v) ∧
      ((∃ ys, ys = bytesL s ∧ J ys W') ∨ (∃ pre, pre <+: bytesL s ∧ Jx pre W')) := by
  have c0 : W.cell? ⟨Bn, 0, none⟩ = some (.int .u64 (wdI s 0)) := hBn 0
  have c1 : W.cell? ⟨Bn, 1, none⟩ = some (.int .u64 (wdI s 1)) := hBn 1
  have c2 : W.cell? ⟨Bn, 2, none⟩ = some (.int .u64 (wdI s 2)) := hBn 2
  have c3 : W.cell? ⟨Bn, 3, none⟩ = some (.int .u64 (wdI s 3)) := hBn 3
  have HT := Lib.hid hT
  clear hBn hT
  refine callsIn_of_wp Tryz.func105 rfl trivial ?_ rfl
  simp only [Tryz.ntmps105, List.size_toArray, List.length_cons, List.length_nil, Nat.reduceAdd, Nat.reduceSub, Array.replicate_succ, Array.replicate_zero, List.push_toArray, List.append_toArray, List.nil_append, List.cons_append]
  gi_wp2
  clear c0 c1 c2 c3
  gi_loopw [6] (fun p wr => ∃ (pre : List Nat) (i : Nat), p = .int .i64 i ∧ i ≤ 4 ∧ Hid (bytesL s = pre ++ restW s i) ∧ J pre wr ∧ Hid (TabAt 3 Lib.deBruijn64tab wr))
    (fun p _ => 4 - (intOf p).toNat)
  case atStart => exact ⟨[], 0, rfl, by omega, bytesL_words s, h0, HT⟩
  case round =>
    obtain ⟨pre, i, rfl, hi, hx, hJ, hTr⟩ := hrel
    by_cases hi4 : i < 4
    · have hix : ∀ w', (Instr.index 33 (.agg #[.int .u64 (wdI s 0), .int .u64 (wdI s 1), .int .u64 (wdI s 2), .int .u64 (wdI s 3)]) (.int .i64 i)).run Tryz.prog w' = .ok (.int .u64 (wdI s i)) w' := by
        have h : i = 0 ∨ i = 1 ∨ i = 2 ∨ i = 3 := by omega
        rcases h with rfl | rfl | rfl | rfl
        · exact ix0 _ _ _ _
        · exact ix1 _ _ _ _
        · exact ix2 _ _ _ _
        · exact ix3 _ _ _ _
      gi_wp2
      obtain ⟨wo, rfl⟩ : ∃ wo : World, wo = wr := ⟨_, rfl⟩
      clear hix
      have hdec : decide ((i : Int) < 4) = true := decide_eq_true (by omega)
      rw [hdec]
      clear hdec
      gi_loopw [4] (fun q wr => ∃ (pre : List Nat) (v : Nat), q = .int .u64 v ∧ v < 18446744073709551616 ∧ Hid (bytesL s = pre ++ ((wbits v).map (64 * i + ·) ++ restW s (i + 1))) ∧ J pre wr ∧ Hid (TabAt 3 Lib.deBruijn64tab wr))
        (fun q _ => (intOf q).toNat)
      case atStart =>
        refine ⟨pre, (wd s i).toNat, rfl, (wd s i).isLt, ?_, hJ, hTr⟩
        refine Lib.hid ?_
        rw [hx.out, restW_step s i hi4]; rfl
      case round =>
        clear hJ hTr hx
        obtain ⟨pre, v, rfl, hv, hx, hJ, hTr⟩ := hrel
        by_cases hv0 : v = 0
        · subst hv0
          have hx2 : Hid (bytesL s = pre ++ restW s (i + 1)) := by
            refine Lib.hid ?_
            rw [hx.out, wbits_zero]; rfl
          gi_wp2
          go_roundw
          case rel => exact ⟨pre, i + 1, by go_num, by omega, hx2, hJ, hTr⟩
          case measure => simp [intOf]; omega
        · have hv1 : ¬ (v : Int) = 0 := by omega
          obtain ⟨hb1, hb2, hb3⟩ := bits_low v hv0 hv
          have hz := Lib.hid (Tryz.bits_TrailingZeros64 v hv wr (fun _ => hTr.out))
          have hxx : Hid (bytesL s = (pre ++ [64 * i + Lib.ctz 64 v]) ++ ((wbits (v &&& (v - 1))).map (64 * i + ·) ++ restW s (i + 1))) := by
            refine Lib.hid ?_
            rw [hx.out, hb1]; simp
          have hlen : pre.length < (bytesL s).length := by rw [hxx.out]; simp
          obtain ⟨fn, tmps, assign, body, hy, hR⟩ := hY pre (64 * i + Lib.ctz 64 v) wr (by omega) hJ hlen
          have hband : bits .and .u64 (v : Int) ((v : Int) - 1) = ((v &&& (v - 1) : Nat) : Int) := by
            have := bits_and_u64_nat v (v - 1) hv (by omega)
            rw [← this]; congr 1; omega
          generalize Lib.ctz 64 v = z at hz hxx hb2 hy hR hlen
          clear hb1 hx
          have hcast : ((64 * i + z : Nat) : Int) = (i : Int) * 64 + (z : Int) := by omega
          rw [hcast] at hy
          clear hcast
          gi_wp2_with (refine ⟨trivial, ?_⟩; gi_at_call 106; refine (callsIn_wide.2 hz.out).mono ?_; rintro e w' ⟨rfl, rfl⟩)
          refine hR.mono ?_
          rintro e W3 (⟨rfl, hJ3, hk3⟩ | ⟨rfl, hJx3⟩)
          · have hT3 := Lib.hid (hk3.tab hTr.out)
            gi_wp2
            go_roundw
            case rel => exact ⟨pre ++ [64 * i + z], v &&& (v - 1), rfl, by omega, hxx, hJ3, hT3⟩
            case measure => simp [intOf]; omega
          · gi_wp2
            refine bodyPost_ret (results_none rfl _ _ _) rfl ?_
            exact ⟨⟨_, rfl⟩, .inr ⟨pre ++ [64 * i + z], by rw [hxx.out]; exact List.prefix_append _ _, hJx3⟩⟩
    · obtain rfl : i = 4 := by omega
      gi_wp2
      go_end0
      exact ⟨⟨_, rfl⟩, .inl ⟨pre, by rw [hx.out, restW_end, List.append_nil], hJ⟩⟩
end Go.Proofs.YtdodkbpagbblmaaGreatDoor
end
section
namespace Go.Proofs.YtdodkbpagbblmaaGreatDoor
open Go Go.RowKit Go.Shelf

attribute [local go_sem] Oper.semAt_some

theorem Tryz.info103 : (Tryz.prog.info? 103).map (fun i => (i.zero, i.size, i.bytes)) = some (some (.agg #[.int .u8 0, .int .u8 0]), 2, 2) := by kernel_rfl

theorem bytes_in (n : Nat) (s : BS) (w : World) :
    CallsIn Fence.wide n Tryz.prog 90 #[vset s] w fun e w' => e = .returned (.func (.func 105) #[] #[.pointer (some ⟨w.heap.size, 0, none⟩)]) ∧ w' = w.alloc (.cells (cset s) 33) := by
  unfold vset cset
  refine callsIn_of_wp Tryz.func90 rfl trivial ?_ rfl
  simp only [Tryz.ntmps90, List.size_toArray, List.length_cons, List.length_nil, Nat.reduceAdd, Nat.reduceSub, Array.replicate_succ, Array.replicate_zero, List.push_toArray, List.append_toArray, List.nil_append, List.cons_append]
  gi_wp2
  go_ret
  exact ⟨rfl, rfl⟩

theorem bytes_stops (n : Nat) (hn : 1 ≤ n) (Bn : Nat) (s : BS) (w : World) (hBn : Blk w Bn 33 (cset s)) (hT : TabAt 3 Lib.deBruijn64tab w) :
    SeqStopsK Fence.wide n Tryz.prog 105 #[.pointer (some ⟨Bn, 0, none⟩)] (fun x : Fin 256 => #[Value.int .u8 ((x.val : Nat) : Int)]) KpG (fun ys => ys.map Fin.val = bytesL s) (fun pre => pre.map Fin.val <+: bytesL s) (bytesL s).length w := by
  intro l J Jx W hW _ _ hY h0
  have hc : ∀ i, W.cell? ⟨Bn, i, none⟩ = (cset s)[i]? := (hBn.below hW hBn.lt).cell
  have hT' : TabAt 3 Lib.deBruijn64tab W := fun j hj => by
    have := hT j hj
    exact (hW.cell (p := ⟨3, j, none⟩) (lt_of_cell this)).trans this
  refine (bytes1_in n hn l Bn s (fun p W => ∃ q : List (Fin 256), p = q.map Fin.val ∧ J q W) (fun p W => ∃ q : List (Fin 256), p = q.map Fin.val ∧ Jx q W) ?_ W hc hT' ⟨[], rfl, h0⟩).mono ?_
  · rintro pre x W2 hx ⟨q, rfl, hJ⟩ hlen
    have h := hY q ⟨x, hx⟩ W2 hJ (by simpa using hlen)
    refine h.mono ?_
    rintro e W3 (⟨h1, h2, h3⟩ | ⟨h1, h2⟩)
    · exact .inl ⟨h1, ⟨q ++ [⟨x, hx⟩], by simp, h2⟩, h3⟩
    · exact .inr ⟨h1, ⟨q ++ [⟨x, hx⟩], by simp, h2⟩⟩
  · rintro e W2 ⟨h1, ⟨ys, hys, q, hq, hJ⟩ | ⟨pre, hpre, q, hq, hJ⟩⟩
    · exact ⟨h1, .inl ⟨q, hq.symm.trans hys, hJ⟩⟩
    · exact ⟨h1, .inr ⟨q, by show q.map Fin.val <+: _; rw [← hq]; exact hpre, hJ⟩⟩

/-- One byte more: the last range goes on, or a new one begins. -/
def rstep (out : List (Nat × Nat)) (x : Nat) : List (Nat × Nat) :=
  match out.getLast? with
  | some r => if (x + 256 - r.2) % 256 = 1 then out.dropLast ++ [(r.1, x)] else out ++ [(x, x)]
  | none => [(x, x)]
def rngs (l : List Nat) : List (Nat × Nat) := l.foldl rstep []
theorem rngs_snoc (l : List Nat) (x : Nat) : rngs (l ++ [x]) = rstep (rngs l) x := by simp [rngs, List.foldl_append]

theorem list_rev_cases (rs : List (Nat × Nat)) : rs = [] ∨ ∃ rs' r, rs = rs' ++ [r] := by
  rcases List.eq_nil_or_concat rs with h | ⟨rs', r, h⟩
  · exact .inl h
  · exact .inr ⟨rs', r, by rw [h, List.concat_eq_append]⟩

theorem rstep_length (rs : List (Nat × Nat)) (x : Nat) : (rstep rs x).length ≤ rs.length + 1 := by
  rcases list_rev_cases rs with rfl | ⟨rs', r, rfl⟩
  · simp [rstep]
  · simp only [rstep, List.getLast?_append, List.getLast?_singleton, Option.some_or]
    split <;> simp

theorem rstep_small (rs : List (Nat × Nat)) (x : Nat) (h : SmallR rs) (hx : x < 256) : SmallR (rstep rs x) := by
  rcases list_rev_cases rs with rfl | ⟨rs', r, rfl⟩
  · intro y hy; simp [rstep] at hy; subst hy; exact ⟨hx, hx⟩
  · have hr := h r (by simp)
    simp only [rstep, List.getLast?_append, List.getLast?_singleton, Option.some_or]
    intro y hy
    split at hy
    · simp at hy
      rcases hy with hy | rfl
      · exact h y (by simp [hy])
      · exact ⟨hr.1, hx⟩
    · simp at hy
      rcases hy with hy | rfl | rfl
      · exact h y (by simp [hy])
      · exact hr
      · exact ⟨hx, hx⟩

theorem rngs_length (l : List Nat) : (rngs l).length ≤ l.length := by
  have h : ∀ (l : List Nat) (rs : List (Nat × Nat)), (l.foldl rstep rs).length ≤ rs.length + l.length := by
    intro l
    induction l with
    | nil => intro rs; simp
    | cons x l ih =>
      intro rs
      have h1 := ih (rstep rs x)
      have h2 := rstep_length rs x
      simp only [List.foldl_cons, List.length_cons]
      omega
  have := h l []
  simpa [rngs] using this

theorem rngs_small (l : List Nat) (hl : ∀ x ∈ l, x < 256) : SmallR (rngs l) := by
  have h : ∀ (l : List Nat) (rs : List (Nat × Nat)), (∀ x ∈ l, x < 256) → SmallR rs → SmallR (l.foldl rstep rs) := by
    intro l
    induction l with
    | nil => intro rs _ h; exact h
    | cons x l ih =>
      intro rs hl h
      exact ih _ (fun y hy => hl y (by simp [hy])) (rstep_small rs x h (hl x (by simp)))
  exact h l [] hl (by intro x hx; cases hx)

/-- The cells of ranges. -/
def cellsR (rs : List (Nat × Nat)) : List Value := rs.flatMap fun r => [.int .u8 r.1, .int .u8 r.2]
theorem cellsR_snoc (rs : List (Nat × Nat)) (r : Nat × Nat) : cellsR (rs ++ [r]) = cellsR rs ++ [.int .u8 r.1, .int .u8 r.2] := by simp [cellsR]
theorem cellsR_length (rs : List (Nat × Nat)) : (cellsR rs).length = rs.length * 2 := by
  induction rs with
  | nil => rfl
  | cons r rs ih => simp [cellsR] at ih ⊢; omega
theorem cellsR_last (rs : List (Nat × Nat)) (r : Nat × Nat) : (cellsR (rs ++ [r]))[rs.length * 2 + 1]? = some (.int .u8 r.2) := by
  rw [cellsR_snoc, List.getElem?_append_right (by rw [cellsR_length]; omega), cellsR_length]
  simp
theorem cellsR_set (rs : List (Nat × Nat)) (r : Nat × Nat) (x : Nat) : (cellsR (rs ++ [r])).set (rs.length * 2 + 1) (.int .u8 x) = cellsR (rs ++ [(r.1, x)]) := by
  rw [cellsR_snoc, cellsR_snoc, List.set_append_right _ _ (by rw [cellsR_length]; omega), cellsR_length]
  simp

theorem cell_two_new (w : World) (x y : Value) (t : TypeId) : ∀ j u, [x, y][j]? = some u → (w.alloc (.cells #[x, y] t)).cell? ((⟨w.heap.size, 0, none⟩ : Addr).add j) = some u := by
  intro j u hj
  match j, hj with
  | 0, hj =>
    simp at hj
    subst hj
    simp [Addr.add]
  | 1, hj =>
    simp at hj
    subst hj
    simp [Addr.add]

set_option maxRecDepth 100000 in
set_option maxHeartbeats 4000000 in
theorem ranges_in (n : Nat) (hn : 6 ≤ n) (s : BS) (w : World) (hG : Glob w) :
    CallsIn Fence.wide n Tryz.prog 70 #[vset s] w fun e W' => ∃ v, e = .returned v ∧ W'.ownsRow w.heap.size 103 2 v (rngs (bytesL s)).length (cellsR (rngs (bytesL s))) ∧ (v = .slice none 0 0 ↔ rngs (bytesL s) = []) ∧ Below w.heap.size w W' := by
  have h1 : 1 ≤ n := by omega
  have h00 : 3 < w.heap.size := lt_of_cell (hG.1 0 (by decide))
  have hlen := length_bytesL s
  obtain ⟨i0, hi, hz0, hz1, hz2⟩ := info_parts Tryz.info103
  unfold vset
  refine callsIn_of_wp_marks Tryz.func70 rfl trivial ?_ rfl
  simp only [Tryz.ntmps70, List.size_toArray, List.length_cons, List.length_nil, Nat.reduceAdd, Nat.reduceSub, Array.replicate_succ, Array.replicate_zero, List.push_toArray, List.append_toArray, List.nil_append, List.cons_append]
  gi_wp2_with (refine ⟨trivial, ?_⟩; gi_at_call 90; refine (bytes_in (n - 1) s _).mono ?_; rintro e w' ⟨rfl, rfl⟩)
  have bT := Blk.new ((w.alloc (.cells #[.int .u64 (wdI s 0), .int .u64 (wdI s 1), .int .u64 (wdI s 2), .int .u64 (wdI s 3)] 33)).alloc (.cells #[.slice none 0 0] 100)) 33 (cset s)
  have bO := (Boxed.new (w.alloc (.cells #[.int .u64 (wdI s 0), .int .u64 (wdI s 1), .int .u64 (wdI s 2), .int .u64 (wdI s 3)] 33)) 100 (.slice none 0 0)).alloc (.cells (cset s) 33)
  simp only [World.size_alloc] at bT bO
  have hB0 : Below w.heap.size w (((w.alloc (.cells #[.int .u64 (wdI s 0), .int .u64 (wdI s 1), .int .u64 (wdI s 2), .int .u64 (wdI s 3)] 33)).alloc (.cells #[.slice none 0 0] 100)).alloc (.cells (cset s) 33)) :=
    (((Below.refl _ w).alloc (Nat.le_refl _) _).alloc (by simp) _).alloc (by simp; omega) _
  have hsz : (((w.alloc (.cells #[.int .u64 (wdI s 0), .int .u64 (wdI s 1), .int .u64 (wdI s 2), .int .u64 (wdI s 3)] 33)).alloc (.cells #[.slice none 0 0] 100)).alloc (.cells (cset s) 33)).heap.size = w.heap.size + 3 := by simp
  obtain ⟨W0, hW0⟩ : ∃ W0, (((w.alloc (.cells #[.int .u64 (wdI s 0), .int .u64 (wdI s 1), .int .u64 (wdI s 2), .int .u64 (wdI s 3)] 33)).alloc (.cells #[.slice none 0 0] 100)).alloc (.cells (cset s) 33)) = W0 := ⟨_, rfl⟩
  rw [hW0] at bT bO hB0 hsz ⊢
  clear hW0
  refine wpIn_rangeFunc_ownG rfl h1 (gf := 105) (lb := #[.pointer (some ⟨w.heap.size + 1 + 1, 0, none⟩)]) rfl trivial (enters_of Tryz.func105 (by kernel_rfl) rfl)
    (bytes_stops (n - 1) (by omega) (w.heap.size + 1 + 1) s W0 bT (hG.below (Nat.le_refl _) hB0).1) kpG_t kpG_b (Below.refl _ _) (fun _ => rfl)
    (fun pre W => (∃ v, Boxed W (w.heap.size + 1) 100 v ∧ W.ownsRow w.heap.size 103 2 v (rngs (pre.map Fin.val)).length (cellsR (rngs (pre.map Fin.val))) ∧ (v = .slice none 0 0 ↔ rngs (pre.map Fin.val) = [])) ∧ Below w.heap.size w W)
    (fun _ _ _ => False)
    (OwnFrom.and (Own.from (holdsRow_own w.heap.size (w.heap.size + 1) 100 103 2 (fun pre : List (Fin 256) => (rngs (pre.map Fin.val)).length) (fun pre => cellsR (rngs (pre.map Fin.val))) (fun pre v => v = .slice none 0 0 ↔ rngs (pre.map Fin.val) = [])) _) (ownFrom_below (Nat.le_refl _) (by omega)))
    (fun _ _ _ _ _ hs _ _ => hs)
    ⟨⟨_, bO, World.ownsRow_nil _ _ _ _, by simp [rngs]⟩, hB0⟩
    (fun x => { tmps := #[.agg #[.int .u64 (wdI s 0), .int .u64 (wdI s 1), .int .u64 (wdI s 2), .int .u64 (wdI s 3)], .pointer (some ⟨w.heap.size, 0, none⟩), .slice none 0 0, .pointer (some ⟨w.heap.size + 1, 0, none⟩), .int .u8 ((x.val : Nat) : Int), undef, .agg #[.int .u64 (wdI s 0), .int .u64 (wdI s 1), .int .u64 (wdI s 2), .int .u64 (wdI s 3)], .func (.func 105) #[] #[.pointer (some ⟨w.heap.size + 1 + 1, 0, none⟩)], .int .u8 ((x.val : Nat) : Int), undef, undef, undef, undef, undef, undef, undef, undef, undef, undef, undef, undef, undef, undef, undef, undef, undef, undef, undef, undef, undef, undef, undef, undef, undef, undef, undef], defers := [] }) ?assign ?body ?done ?stop
  case assign =>
    intro l x W K hK
    gi_wp2
    exact hK
  case body =>
    rintro l pre x W ⟨⟨v, hv, hrow, hnil⟩, hB⟩ hlt
    have hsn : (pre ++ [x]).map Fin.val = pre.map Fin.val ++ [x.val] := by simp
    have hlenP : (rngs (pre.map Fin.val)).length ≤ 256 := by
      have h1 := rngs_length (pre.map Fin.val)
      rw [List.length_map] at h1
      omega
    have hsm : SmallR (rngs (pre.map Fin.val)) := rngs_small _ (by
      intro y hy
      rw [List.mem_map] at hy
      obtain ⟨z, _, rfl⟩ := hy
      exact z.isLt)
    have hrs := rngs_snoc (pre.map Fin.val) x.val
    rw [← hsn] at hrs
    have HRS := Lib.hid hrs
    clear hrs hsn
    obtain ⟨rs, hrs⟩ : ∃ rs, rs = rngs (pre.map Fin.val) := ⟨_, rfl⟩
    rw [← hrs] at hrow hnil hlenP HRS hsm
    clear hrs
    obtain ⟨x, hx⟩ := x
    dsimp only at HRS ⊢
    have hc := hv.cell
    have hx256 : (x : Int) < 256 := by omega
    rcases List.eq_nil_or_concat rs with rfl | ⟨rs', r, hcat⟩
    · have hv0 : v = .slice none 0 0 := hnil.2 rfl
      have HS : Hid (rngs ((pre ++ [(⟨x, hx⟩ : Fin 256)]).map Fin.val) = [(x, x)]) := Lib.hid (HRS.out.trans rfl)
      clear HRS hnil
      subst hv0
      gi_wp2_with (gi_at_builtin; refine wpListIn_append_own _ rfl _ _ 100 rfl w.heap.size 103 i0 (.agg #[.int .u8 0, .int .u8 0]) 2 2 Tryz.underlying100 hi hz0 hz1 hz2 rfl (by decide) _ _ _ rfl (hrow.alloc _) ⟨W.heap.size, 0, none⟩ 1 1 [.int .u8 x, .int .u8 x] rfl rfl (cell_two_new _ _ _ _) (by simp [Value.oneCell']) (by unfold maxLen; omega) (by omega) (by have := hB.size; simp; omega) ?_; intro v' w1 hown' hgrow _; obtain ⟨g', cap', rfl⟩ := ownsRow_succ hown'; obtain ⟨hv1, hv2, hr2, hk2, hb2⟩ := hv.appended (by decide) hrow hB.size (Nat.le_succ _) hown' hgrow; have hc1 := hv1.cell; have hf1 := hv1.frozen)
      exact ⟨hk2.from _, KpG.below hb2 h00, ⟨_, hv2, by rw [HS.out]; exact hr2, by rw [HS.out]; simp⟩, hB.trans hb2⟩
    · rw [List.concat_eq_append] at hcat
      subst hcat
      have hrl : (rs' ++ [r]).length = rs'.length + 1 := by simp
      rw [hrl] at hrow hlenP
      obtain ⟨g, cap, rfl⟩ := ownsRow_succ hrow
      have HC := Lib.hid ((hrow.cellAt (rs'.length * 2 + 1) (by omega)).trans (cellsR_last rs' r))
      have hfg := hrow.frozenAt (rs'.length * 2 + 1)
      have HS : Hid (rngs ((pre ++ [(⟨x, hx⟩ : Fin 256)]).map Fin.val) = if (x + 256 - r.2) % 256 = 1 then rs' ++ [(r.1, x)] else rs' ++ [r] ++ [(x, x)]) := by
        refine Lib.hid (HRS.out.trans ?_)
        simp [rstep]
      clear HRS hnil
      obtain ⟨f, t⟩ := r
      dsimp only at HC HS
      have hcl := HC.out
      have ht : t < 256 := (hsm (f, t) (by simp)).2
      by_cases heq : (x + 256 - t) % 256 = 1
      · have hw : (IntKind.u8.wrap ((x : Int) - (t : Int)) == 1) = true := by
          rw [IntKind.wrap_u8']; simp; omega
        obtain ⟨hst, hgr⟩ := hrow.stored (rs'.length * 2 + 1) (.int .u8 x)
        have HST := Lib.hid hst
        have HGR := Lib.hid hgr
        have hgn : w.heap.size ≤ g := by
          rcases hrow.2 with ⟨h, _⟩ | ⟨g', cap', cur, h, hb, _⟩
          · cases h
          · cases h; exact hb
        have HNR := Lib.hid (hv.not_row (by decide) hrow)
        clear hst hgr
        gi_wp2
        rw [if_pos heq] at HS
        refine ⟨(KeepsOthers.setCell _ _ _).from _, KpG.below ((Below.refl w.heap.size W).setCell (p := ⟨g, _, none⟩) hgn _) h00, ⟨_, hv.kept HGR.out (by simpa [Value.ownBlock] using HNR.out), ?_, ?_⟩, hB.setCell (p := ⟨g, _, none⟩) hgn _⟩
        · rw [HS.out]
          have h := HST.out
          rw [cellsR_set rs' (f, t) x] at h
          simpa using h
        · rw [HS.out]; simp
      · have hw : (IntKind.u8.wrap ((x : Int) - (t : Int)) == 1) = false := by
          rw [IntKind.wrap_u8']; simp; omega
        rw [if_neg heq] at HS
        gi_wp2_with (gi_at_builtin; refine wpListIn_append_own _ rfl _ _ 100 rfl w.heap.size 103 i0 (.agg #[.int .u8 0, .int .u8 0]) 2 2 Tryz.underlying100 hi hz0 hz1 hz2 rfl (by decide) _ _ _ rfl (hrow.alloc _) ⟨W.heap.size, 0, none⟩ 1 1 [.int .u8 x, .int .u8 x] rfl rfl (cell_two_new _ _ _ _) (by simp [Value.oneCell']) (by unfold maxLen; omega) (by omega) (by have := hB.size; simp; omega) ?_; intro v' w1 hown' hgrow _; obtain ⟨g', cap', rfl⟩ := ownsRow_succ hown'; obtain ⟨hv1, hv2, hr2, hk2, hb2⟩ := hv.appended (by decide) hrow hB.size (Nat.le_succ _) hown' hgrow; have hc1 := hv1.cell; have hf1 := hv1.frozen)
        have hkk : rs'.length + 1 + 1 = (rs' ++ [(f, t)] ++ [(x, x)]).length := by simp
        refine ⟨hk2.from _, KpG.below hb2 h00, ⟨_, hv2, ?_, by rw [HS.out]; simp⟩, hB.trans hb2⟩
        rw [HS.out, cellsR_snoc, ← hkk]
        exact hr2
  case done =>
    rintro D ys W hD hys ⟨⟨v, hv, hrow, hnil⟩, hB⟩ hK
    have hys2 : ys.map Fin.val = bytesL s := hys
    rw [hys2] at hrow hnil
    have hc := hv.cell
    gi_wp2
    refine ⟨by simp, .inl ⟨_, _, rfl, run_takeDeferred hK, ?_⟩⟩
    exact ⟨_, results_tmp rfl _ _ _, v, rfl, ownsRow_putObj hrow _ hK rfl, hnil, hB.trans (belowK_b (w := w) (Nat.le_refl _) W D _ _ (by omega) hK rfl rfl)⟩
  case stop =>
    rintro D c pre W _ _ h _
    exact h.elim
end Go.Proofs.YtdodkbpagbblmaaGreatDoor
end
section
namespace Go.Proofs.YtdodkbpagbblmaaGreatDoor
open Go Go.RowKit

/-! How many bits a word has, as math/bits reckons it. -/

/-- How many of the first n bits are set. -/
def pc (x : Nat) : Nat → Nat
  | 0 => 0
  | n + 1 => pc x n + (if x.testBit n then 1 else 0)

theorem and_split (k a b : Nat) : a &&& b = (a % 2 ^ k &&& b % 2 ^ k) + 2 ^ k * (a / 2 ^ k &&& b / 2 ^ k) := by
  have h1 : (a &&& b) % 2 ^ k = a % 2 ^ k &&& b % 2 ^ k := Nat.and_mod_two_pow
  have h2 : (a &&& b) / 2 ^ k = a / 2 ^ k &&& b / 2 ^ k := Nat.and_div_two_pow
  rw [← h1, ← h2]
  have := Nat.mod_add_div (a &&& b) (2 ^ k)
  omega

/-- The three steps, byte by byte. -/
def s1 (b : Nat) : Nat := (b / 2 &&& 85) + (b &&& 85)
def s2 (b : Nat) : Nat := (b / 4 &&& 51) + (b &&& 51)
def s3 (b : Nat) : Nat := (b / 16 + b) &&& 15

/-- A mask of n bytes. -/
def mask (m : Nat) : Nat → Nat
  | 0 => 0
  | n + 1 => m + 256 * mask m n

theorem b1 : ∀ b : Fin 256, ∀ c : Fin 2, (b.val / 2 + 128 * c.val) &&& 85 = b.val / 2 &&& 85 := by decide +kernel

theorem step1 (n : Nat) : ∀ x : Nat, (x / 2 &&& mask 85 (n + 1)) + (x &&& mask 85 (n + 1)) = s1 (x % 256) + 256 * ((x / 256 / 2 &&& mask 85 n) + (x / 256 &&& mask 85 n)) := by
  intro x
  have hm : mask 85 (n + 1) % 2 ^ 8 = 85 := by simp [mask]
  have hd : mask 85 (n + 1) / 2 ^ 8 = mask 85 n := by simp [mask]; omega
  rw [and_split 8 (x / 2), and_split 8 x, hm, hd]
  have e1 : x / 2 % 2 ^ 8 = x % 256 / 2 + 128 * (x / 256 % 2) := by omega
  have e2 : x / 2 / 2 ^ 8 = x / 256 / 2 := by omega
  have e3 : x % 2 ^ 8 = x % 256 := rfl
  have e4 : x / 2 ^ 8 = x / 256 := rfl
  rw [e1, e2, e3, e4]
  have hb := b1 ⟨x % 256, by omega⟩ ⟨x / 256 % 2, by omega⟩
  dsimp only at hb
  rw [hb]
  unfold s1
  omega

theorem b2 : ∀ b : Fin 256, ∀ c : Fin 4, (b.val / 4 + 64 * c.val) &&& 51 = b.val / 4 &&& 51 := by decide +kernel
theorem step2 (n : Nat) : ∀ x : Nat, (x / 4 &&& mask 51 (n + 1)) + (x &&& mask 51 (n + 1)) = s2 (x % 256) + 256 * ((x / 256 / 4 &&& mask 51 n) + (x / 256 &&& mask 51 n)) := by
  intro x
  have hm : mask 51 (n + 1) % 2 ^ 8 = 51 := by simp [mask]
  have hd : mask 51 (n + 1) / 2 ^ 8 = mask 51 n := by simp [mask]; omega
  rw [and_split 8 (x / 4), and_split 8 x, hm, hd]
  have e1 : x / 4 % 2 ^ 8 = x % 256 / 4 + 64 * (x / 256 % 4) := by omega
  have e2 : x / 4 / 2 ^ 8 = x / 256 / 4 := by omega
  have e3 : x % 2 ^ 8 = x % 256 := rfl
  have e4 : x / 2 ^ 8 = x / 256 := rfl
  rw [e1, e2, e3, e4]
  have hb := b2 ⟨x % 256, by omega⟩ ⟨x / 256 % 4, by omega⟩
  dsimp only at hb
  rw [hb]
  unfold s2
  omega

theorem and15 (x : Nat) : x &&& 15 = x % 16 := Nat.and_two_pow_sub_one_eq_mod x 4
theorem mask15 (n : Nat) : ∀ x : Nat, x &&& mask 15 (n + 1) = x % 16 + 256 * (x / 256 &&& mask 15 n) := by
  intro x
  have hm : mask 15 (n + 1) % 2 ^ 8 = 15 := by simp [mask]
  have hd : mask 15 (n + 1) / 2 ^ 8 = mask 15 n := by simp [mask]; omega
  rw [and_split 8 x, hm, hd, and15]
  have e3 : x % 2 ^ 8 % 16 = x % 16 := by omega
  rw [e3]

theorem s1_le : ∀ b : Fin 256, s1 b.val ≤ 170 := by decide +kernel
theorem s2_le : ∀ b : Fin 256, s2 (s1 b.val) ≤ 68 ∧ s2 (s1 b.val) % 16 ≤ 4 := by decide +kernel
theorem s3_pc : ∀ b : Fin 256, s3 (s2 (s1 b.val)) = pc b.val 8 := by decide +kernel
theorem pc8_le : ∀ b : Fin 256, pc b.val 8 ≤ 8 := by decide +kernel

def byteSum (g : Nat → Nat) : Nat → Nat → Nat
  | 0, _ => 0
  | n + 1, x => g (x % 256) + 256 * byteSum g n (x / 256)

theorem sum1 (n : Nat) : ∀ x, (x / 2 &&& mask 85 n) + (x &&& mask 85 n) = byteSum s1 n x := by
  induction n with
  | zero => intro x; simp [mask, byteSum]
  | succ n ih => intro x; rw [step1, ih, byteSum]

theorem sum2 (n : Nat) : ∀ x, (byteSum s1 n x / 4 &&& mask 51 n) + (byteSum s1 n x &&& mask 51 n) = byteSum (fun b => s2 (s1 b)) n x := by
  induction n with
  | zero => intro x; simp [mask, byteSum]
  | succ n ih =>
    intro x
    have h1 := s1_le ⟨x % 256, by omega⟩
    dsimp only at h1
    rw [step2, byteSum, byteSum]
    have e1 : (s1 (x % 256) + 256 * byteSum s1 n (x / 256)) % 256 = s1 (x % 256) := by omega
    have e2 : (s1 (x % 256) + 256 * byteSum s1 n (x / 256)) / 256 = byteSum s1 n (x / 256) := by omega
    rw [e1, e2, ih]

theorem sum3 (n : Nat) : ∀ x, (byteSum (fun b => s2 (s1 b)) n x / 16 + byteSum (fun b => s2 (s1 b)) n x) &&& mask 15 n = byteSum (fun b => pc b 8) n x := by
  induction n with
  | zero => intro x; simp [mask, byteSum]
  | succ n ih =>
    intro x
    have h1 := s2_le ⟨x % 256, by omega⟩
    have h3 := s3_pc ⟨x % 256, by omega⟩
    dsimp only at h1 h3
    have h2 : byteSum (fun b => s2 (s1 b)) n (x / 256) % 16 ≤ 4 := by
      cases n with
      | zero => simp [byteSum]
      | succ n =>
        have := s2_le ⟨x / 256 % 256, by omega⟩
        dsimp only at this
        rw [byteSum]
        omega
    have ih := ih (x / 256)
    rw [mask15, byteSum, byteSum]
    generalize byteSum (fun b => s2 (s1 b)) n (x / 256) = Z at *
    have e1 : ((s2 (s1 (x % 256)) + 256 * Z) / 16 + (s2 (s1 (x % 256)) + 256 * Z)) % 16 = (s2 (s1 (x % 256)) / 16 + s2 (s1 (x % 256))) % 16 := by omega
    have e2 : ((s2 (s1 (x % 256)) + 256 * Z) / 16 + (s2 (s1 (x % 256)) + 256 * Z)) / 256 = Z / 16 + Z := by omega
    rw [e1, e2, ih, ← h3]
    unfold s3
    rw [and15]

theorem pc_split (x n : Nat) : pc x (8 + n) = pc (x % 256) 8 + pc (x / 256) n := by
  induction n with
  | zero =>
    have h : ∀ i, i < 8 → (x % 256).testBit i = x.testBit i := by
      intro i hi
      have := Nat.testBit_mod_two_pow x 8 i
      rw [show (2 : Nat) ^ 8 = 256 from rfl] at this
      rw [this]; simp [hi]
    simp [pc, h]
  | succ n ih =>
    have h : (x / 256).testBit n = x.testBit (8 + n) := by
      have := (Nat.testBit_div_two_pow x n : (x / 2 ^ 8).testBit n = x.testBit (n + 8))
      rw [show (2 : Nat) ^ 8 = 256 from rfl] at this
      rw [this, Nat.add_comm]
    show pc x (8 + n) + (if x.testBit (8 + n) then 1 else 0) = pc (x % 256) 8 + (pc (x / 256) n + (if (x / 256).testBit n then 1 else 0))
    rw [ih, h]
    omega

theorem byteSum8 (x : Nat) : ∃ a0 a1 a2 a3 a4 a5 a6 a7 : Nat, byteSum (fun b => pc b 8) 8 x = a0 + 256 * (a1 + 256 * (a2 + 256 * (a3 + 256 * (a4 + 256 * (a5 + 256 * (a6 + 256 * a7)))))) ∧
    a0 ≤ 8 ∧ a1 ≤ 8 ∧ a2 ≤ 8 ∧ a3 ≤ 8 ∧ a4 ≤ 8 ∧ a5 ≤ 8 ∧ a6 ≤ 8 ∧ a7 ≤ 8 ∧ pc x 64 = a0 + a1 + a2 + a3 + a4 + a5 + a6 + a7 := by
  have hle : ∀ y, pc (y % 256) 8 ≤ 8 := fun y => pc8_le ⟨y % 256, by omega⟩
  refine ⟨pc (x % 256) 8, pc (x / 256 % 256) 8, pc (x / 256 / 256 % 256) 8, pc (x / 256 / 256 / 256 % 256) 8, pc (x / 256 / 256 / 256 / 256 % 256) 8, pc (x / 256 / 256 / 256 / 256 / 256 % 256) 8, pc (x / 256 / 256 / 256 / 256 / 256 / 256 % 256) 8, pc (x / 256 / 256 / 256 / 256 / 256 / 256 / 256 % 256) 8, by simp only [byteSum, Nat.mul_zero, Nat.add_zero], hle _, hle _, hle _, hle _, hle _, hle _, hle _, hle _, ?_⟩
  have h0 : pc (x) 64 = pc (x % 256) 8 + pc (x / 256) 56 := pc_split (x) 56
  have h1 : pc (x / 256) 56 = pc (x / 256 % 256) 8 + pc (x / 256 / 256) 48 := pc_split (x / 256) 48
  have h2 : pc (x / 256 / 256) 48 = pc (x / 256 / 256 % 256) 8 + pc (x / 256 / 256 / 256) 40 := pc_split (x / 256 / 256) 40
  have h3 : pc (x / 256 / 256 / 256) 40 = pc (x / 256 / 256 / 256 % 256) 8 + pc (x / 256 / 256 / 256 / 256) 32 := pc_split (x / 256 / 256 / 256) 32
  have h4 : pc (x / 256 / 256 / 256 / 256) 32 = pc (x / 256 / 256 / 256 / 256 % 256) 8 + pc (x / 256 / 256 / 256 / 256 / 256) 24 := pc_split (x / 256 / 256 / 256 / 256) 24
  have h5 : pc (x / 256 / 256 / 256 / 256 / 256) 24 = pc (x / 256 / 256 / 256 / 256 / 256 % 256) 8 + pc (x / 256 / 256 / 256 / 256 / 256 / 256) 16 := pc_split (x / 256 / 256 / 256 / 256 / 256) 16
  have h6 : pc (x / 256 / 256 / 256 / 256 / 256 / 256) 16 = pc (x / 256 / 256 / 256 / 256 / 256 / 256 % 256) 8 + pc (x / 256 / 256 / 256 / 256 / 256 / 256 / 256) 8 := pc_split (x / 256 / 256 / 256 / 256 / 256 / 256) 8
  have h7 : pc (x / 256 / 256 / 256 / 256 / 256 / 256 / 256) 8 = pc (x / 256 / 256 / 256 / 256 / 256 / 256 / 256 % 256) 8 + pc (x / 256 / 256 / 256 / 256 / 256 / 256 / 256 / 256) 0 := pc_split (x / 256 / 256 / 256 / 256 / 256 / 256 / 256) 0
  have hz : pc (x / 256 / 256 / 256 / 256 / 256 / 256 / 256 / 256) 0 = 0 := rfl
  rw [h0, h1, h2, h3, h4, h5, h6, h7, hz]
  simp only [Nat.add_assoc, Nat.add_zero]

theorem div_low (L H B : Nat) (h : L < B) : (L + B * H) / B = H := by
  have hB : 0 < B := by omega
  rw [Nat.add_mul_div_left _ _ hB, Nat.div_eq_of_lt h, Nat.zero_add]

theorem last_step (a0 a1 a2 a3 a4 a5 a6 a7 : Nat) (h0 : a0 ≤ 8) (h1 : a1 ≤ 8) (h2 : a2 ≤ 8) (h3 : a3 ≤ 8) (h4 : a4 ≤ 8) (h5 : a5 ≤ 8) (h6 : a6 ≤ 8) (h7 : a7 ≤ 8) (y : Nat)
    (hy : y = a0 + 256 * (a1 + 256 * (a2 + 256 * (a3 + 256 * (a4 + 256 * (a5 + 256 * (a6 + 256 * (a7)))))))) :
    y < 2000000000000000000 ∧ ∃ t1 t2 t3, t1 = y + y / 256 ∧ t2 = t1 + t1 / 65536 ∧ t3 = t2 + t2 / 4294967296 ∧ t1 < 18446744073709551616 ∧ t2 < 18446744073709551616 ∧ t3 < 18446744073709551616 ∧ t3 % 128 = a0 + a1 + a2 + a3 + a4 + a5 + a6 + a7 := by
  have hy2 : y < 2000000000000000000 := by omega
  refine ⟨hy2, _, _, _, rfl, rfl, rfl, ?_⟩
  have e1 : y / 256 = a1 + 256 * (a2 + 256 * (a3 + 256 * (a4 + 256 * (a5 + 256 * (a6 + 256 * (a7)))))) := by rw [hy]; exact div_low _ _ _ (by omega)
  obtain ⟨t1, ht1⟩ : ∃ t1, t1 = y + y / 256 := ⟨_, rfl⟩
  rw [← ht1]
  have f1 : t1 = (a0 + a1) + 256 * ((a1 + a2) + 256 * ((a2 + a3) + 256 * ((a3 + a4) + 256 * ((a4 + a5) + 256 * ((a5 + a6) + 256 * ((a6 + a7) + 256 * (a7))))))) := by rw [ht1, e1, hy]; omega
  have g1 : t1 = (((a0 + a1)) + 256 * ((a1 + a2))) + 65536 * ((a2 + a3) + 256 * ((a3 + a4) + 256 * ((a4 + a5) + 256 * ((a5 + a6) + 256 * ((a6 + a7) + 256 * (a7)))))) := by rw [f1]; omega
  have e2 : t1 / 65536 = (a2 + a3) + 256 * ((a3 + a4) + 256 * ((a4 + a5) + 256 * ((a5 + a6) + 256 * ((a6 + a7) + 256 * (a7))))) := by rw [g1]; exact div_low _ _ _ (by clear e1 ht1 f1 g1 hy hy2; omega)
  obtain ⟨t2, ht2⟩ : ∃ t2, t2 = t1 + t1 / 65536 := ⟨_, rfl⟩
  rw [← ht2]
  have f2 : t2 = (a0 + a1 + a2 + a3) + 256 * ((a1 + a2 + a3 + a4) + 256 * ((a2 + a3 + a4 + a5) + 256 * ((a3 + a4 + a5 + a6) + 256 * ((a4 + a5 + a6 + a7) + 256 * ((a5 + a6 + a7) + 256 * ((a6 + a7) + 256 * ((a7)))))))) := by rw [ht2, e2, f1]; omega
  have g2 : t2 = ((a0 + a1 + a2 + a3) + 256 * ((a1 + a2 + a3 + a4) + 256 * ((a2 + a3 + a4 + a5) + 256 * ((a3 + a4 + a5 + a6))))) + 4294967296 * ((a4 + a5 + a6 + a7) + 256 * ((a5 + a6 + a7) + 256 * ((a6 + a7) + 256 * ((a7))))) := by rw [f2]; omega
  have e3 : t2 / 4294967296 = (a4 + a5 + a6 + a7) + 256 * ((a5 + a6 + a7) + 256 * ((a6 + a7) + 256 * ((a7)))) := by rw [g2]; exact div_low _ _ _ (by clear e1 ht1 f1 g1 e2 ht2 f2 g2 hy hy2; omega)
  have b1 : t1 < 18446744073709551616 := by clear f2 g2 e3 ht2 g1 e2; omega
  have b2 : t2 < 18446744073709551616 := by clear g2 e3 ht2 g1 e2 f1 ht1 e1 hy; omega
  obtain ⟨t3, ht3⟩ : ∃ t3, t3 = t2 + t2 / 4294967296 := ⟨_, rfl⟩
  rw [← ht3]
  clear g2 ht2 g1 e2 f1 ht1 e1 hy
  have f3 : t3 = (a0 + a1 + a2 + a3 + a4 + a5 + a6 + a7) + 256 * ((a1 + a2 + a3 + a4 + a5 + a6 + a7) + 256 * ((a2 + a3 + a4 + a5 + a6 + a7) + 256 * ((a3 + a4 + a5 + a6 + a7) + 256 * ((a4 + a5 + a6 + a7) + 256 * ((a5 + a6 + a7) + 256 * ((a6 + a7) + 256 * ((a7)))))))) := by rw [ht3, e3, f2]; omega
  clear f2 e3 ht3
  refine ⟨b1, b2, by omega, by omega⟩

end Go.Proofs.YtdodkbpagbblmaaGreatDoor
end
section
namespace Go.Proofs.YtdodkbpagbblmaaGreatDoor
open Go Go.RowKit

theorem Tryz.info5 : (Tryz.prog.info? 5).map (fun i => (i.zero, i.size, i.bytes)) = some (some (.int .u8 0), 1, 1) := by kernel_rfl

def byteV (x : Nat) : Value := .int .u8 x
/-- A digit of a byte's escape. -/
def hexC (n : Nat) : Nat := if n < 10 then 48 + n else 87 + n
/-- A byte's text. -/
def byteT (b : Nat) : List Nat :=
  if b = 9 then [92, 116] else if b = 10 then [92, 110] else if b = 13 then [92, 114] else if signB b then [92, b] else if 32 < b ∧ b ≤ 126 then [b] else [92, 120, hexC (b / 16), hexC (b % 16)]

/-- What an append leaves: nothing else has turned. -/
theorem own_fin {w w1 w' : World} {n₀ : Nat} {v : Value} {n : Nat} {xs : List Value} (hown : w1.ownsRow n₀ 5 1 v n xs) (hk : Lib.OthersKept 5 none w w1) (hB : Below n₀ w w1) (hn : n₀ ≤ w.heap.size) (hg : w1.grownBy w' v.ownBlock) :
    Lib.OthersKept 5 none w w' ∧ Below n₀ w w' := by
  refine ⟨hk.grown hg (fun g e => Lib.ownsRow_kind hown g e), hB.grown hg (Nat.le_trans hn hB.size) fun j ej => ?_⟩
  rcases hown.2 with ⟨rfl, _⟩ | ⟨g, cap, cur, rfl, hb, _⟩
  · cases ej
  · obtain rfl : g = j := by simpa [Value.ownBlock] using ej
    exact hb

theorem hex_ix (n : Nat) (h : n < 16) (w : World) : (Instr.index 9 (.string ⟨#[48, 49, 50, 51, 52, 53, 54, 55, 56, 57, 97, 98, 99, 100, 101, 102]⟩) (.int .u8 (n : Int))).run Tryz.prog w = .ok (.int .u8 (hexC n : Nat)) w := by
  rcases (by omega : n = 0 ∨ n = 1 ∨ n = 2 ∨ n = 3 ∨ n = 4 ∨ n = 5 ∨ n = 6 ∨ n = 7 ∨ n = 8 ∨ n = 9 ∨ n = 10 ∨ n = 11 ∨ n = 12 ∨ n = 13 ∨ n = 14 ∨ n = 15) with rfl | rfl | rfl | rfl | rfl | rfl | rfl | rfl | rfl | rfl | rfl | rfl | rfl | rfl | rfl | rfl
  · kernel_rfl
  · kernel_rfl
  · kernel_rfl
  · kernel_rfl
  · kernel_rfl
  · kernel_rfl
  · kernel_rfl
  · kernel_rfl
  · kernel_rfl
  · kernel_rfl
  · kernel_rfl
  · kernel_rfl
  · kernel_rfl
  · kernel_rfl
  · kernel_rfl
  · kernel_rfl

def bytePost (l : List Nat) (n₀ : Nat) (w : World) (e : Ending) (w' : World) : Prop :=
  ∃ v', e = .returned v' ∧ w'.ownsRow n₀ 5 1 v' l.length (l.map byteV) ∧ Lib.OthersKept 5 none w w' ∧ Below n₀ w w'

set_option maxRecDepth 100000 in
set_option maxHeartbeats 4000000 in
theorem appendByte_any (v : Value) (l : List Nat) (b : Nat) (hb : b < 256) (n₀ : Nat) (w : World) (hown : w.ownsRow n₀ 5 1 v l.length (l.map byteV)) (hn : n₀ ≤ w.heap.size) (hl : l.length ≤ 1048576) :
    Calls Tryz.prog 91 #[v, .int .u8 b] w (bytePost (l ++ byteT b) n₀ w) := by
  obtain ⟨i0, hi, hz0, hz1, hz2⟩ := info_parts Tryz.info5
  have HS := fun w' => Lib.hid (isSign_any b hb w')
  have hstr : ∀ (c : Nat) (hc : c < 256), (l ++ [92, c]).length = l.length + 2 ∧ (l ++ [92, c]).map byteV = l.map byteV ++ [.int .u8 92, .int .u8 c] := fun c _ => ⟨by simp, by simp [byteV]⟩
  by_cases c1 : b = 9
  · have hE : byteT b = [92, 116] := by unfold byteT; rw [if_pos c1]
    rw [hE]
    subst c1
    clear hE HS hb
    go_enter Tryz.func91, Tryz.ntmps91
    go_wp2_with (at_builtin; refine Lib.wpList_append_own_string _ rfl _ _ 58 9 rfl n₀ 5 i0 Tryz.underlying58 Tryz.underlying9 hi hz0 hz1 hz2 _ _ _ rfl hown ⟨#[92, 116]⟩ rfl (by show l.length + 2 ≤ maxLen; unfold maxLen; omega) (by show l.length + 2 ≤ _; omega) hn ?_; intro v' w1 hown1 hgrow _)
    go_ret
    obtain ⟨k1, k2⟩ := own_fin hown (Lib.OthersKept.refl 5 none w) (Below.refl n₀ w) hn hgrow
    refine ⟨v', rfl, ?_, k1, k2⟩
    have e1 : (l ++ [92, 116]).length = l.length + 2 := by simp
    have e2 : (l ++ [92, 116]).map byteV = l.map byteV ++ Lib.strCells ⟨#[92, 116]⟩ := by simp [byteV, Lib.strCells]
    rw [e1, e2]; exact hown1
  · by_cases c2 : b = 10
    · have hE : byteT b = [92, 110] := by unfold byteT; rw [if_neg c1, if_pos c2]
      rw [hE]
      subst c2
      clear hE HS hb
      go_enter Tryz.func91, Tryz.ntmps91
      go_wp2_with (at_builtin; refine Lib.wpList_append_own_string _ rfl _ _ 58 9 rfl n₀ 5 i0 Tryz.underlying58 Tryz.underlying9 hi hz0 hz1 hz2 _ _ _ rfl hown ⟨#[92, 110]⟩ rfl (by show l.length + 2 ≤ maxLen; unfold maxLen; omega) (by show l.length + 2 ≤ _; omega) hn ?_; intro v' w1 hown1 hgrow _)
      go_ret
      obtain ⟨k1, k2⟩ := own_fin hown (Lib.OthersKept.refl 5 none w) (Below.refl n₀ w) hn hgrow
      refine ⟨v', rfl, ?_, k1, k2⟩
      have e1 : (l ++ [92, 110]).length = l.length + 2 := by simp
      have e2 : (l ++ [92, 110]).map byteV = l.map byteV ++ Lib.strCells ⟨#[92, 110]⟩ := by simp [byteV, Lib.strCells]
      rw [e1, e2]; exact hown1
    · by_cases c3 : b = 13
      · have hE : byteT b = [92, 114] := by unfold byteT; rw [if_neg c1, if_neg c2, if_pos c3]
        rw [hE]
        subst c3
        clear hE HS hb
        go_enter Tryz.func91, Tryz.ntmps91
        go_wp2_with (at_builtin; refine Lib.wpList_append_own_string _ rfl _ _ 58 9 rfl n₀ 5 i0 Tryz.underlying58 Tryz.underlying9 hi hz0 hz1 hz2 _ _ _ rfl hown ⟨#[92, 114]⟩ rfl (by show l.length + 2 ≤ maxLen; unfold maxLen; omega) (by show l.length + 2 ≤ _; omega) hn ?_; intro v' w1 hown1 hgrow _)
        go_ret
        obtain ⟨k1, k2⟩ := own_fin hown (Lib.OthersKept.refl 5 none w) (Below.refl n₀ w) hn hgrow
        refine ⟨v', rfl, ?_, k1, k2⟩
        have e1 : (l ++ [92, 114]).length = l.length + 2 := by simp
        have e2 : (l ++ [92, 114]).map byteV = l.map byteV ++ Lib.strCells ⟨#[92, 114]⟩ := by simp [byteV, Lib.strCells]
        rw [e1, e2]; exact hown1
      · have d1 : ¬ (b : Int) = 9 := by omega
        have d2 : ¬ (b : Int) = 10 := by omega
        have d3 : ¬ (b : Int) = 13 := by omega
        cases hsg : signB b with
        | true =>
          have hE : byteT b = [92, b] := by unfold byteT; rw [if_neg c1, if_neg c2, if_neg c3, if_pos hsg]
          rw [hE]
          clear hE
          go_enter Tryz.func91, Tryz.ntmps91
          go_wp2_with (first
            | (go_at_call 107; refine (HS _).out.mono ?_; rintro e w' ⟨rfl, rfl⟩)
            | (at_builtin; refine wpList_append_own _ rfl _ _ 58 rfl n₀ 5 i0 (.int .u8 0) 1 1 Tryz.underlying58 hi hz0 hz1 hz2 rfl (by decide) _ _ _ rfl (hown.alloc _) ⟨w.heap.size, 0, none⟩ 2 2 [.int .u8 92, .int .u8 b] rfl rfl (cell_two_new _ _ _ _) (by simp [Value.oneCell']) (by unfold maxLen; omega) (by omega) (by simp; omega) ?_; intro v' w1 hown1 hgrow _))
          go_ret
          obtain ⟨k1, k2⟩ := own_fin (hown.alloc _) ((Lib.OthersKept.refl 5 none w).alloc _) ((Below.refl n₀ w).alloc hn _) hn hgrow
          refine ⟨v', rfl, ?_, k1, k2⟩
          have e1 : (l ++ [92, b]).length = l.length + 2 := by simp
          have e2 : (l ++ [92, b]).map byteV = l.map byteV ++ [.int .u8 92, .int .u8 b] := by simp [byteV]
          rw [e1, e2]; exact hown1
        | false =>
          by_cases c5 : 32 < b ∧ b ≤ 126
          · have hE : byteT b = [b] := by unfold byteT; rw [if_neg c1, if_neg c2, if_neg c3, hsg, if_neg (by simp), if_pos c5]
            rw [hE]
            clear hE
            obtain ⟨c5, c6⟩ := c5
            go_enter Tryz.func91, Tryz.ntmps91
            go_wp2_with (first
              | (go_at_call 107; refine (HS _).out.mono ?_; rintro e w' ⟨rfl, rfl⟩)
              | (at_builtin; refine wpList_append_own _ rfl _ _ 58 rfl n₀ 5 i0 (.int .u8 0) 1 1 Tryz.underlying58 hi hz0 hz1 hz2 rfl (by decide) _ _ _ rfl (hown.alloc _) ⟨w.heap.size, 0, none⟩ 1 1 [.int .u8 b] rfl rfl (cell_one_new _ _ _) (by simp [Value.oneCell']) (by unfold maxLen; omega) (by omega) (by simp; omega) ?_; intro v' w1 hown1 hgrow _))
            go_ret
            obtain ⟨k1, k2⟩ := own_fin (hown.alloc _) ((Lib.OthersKept.refl 5 none w).alloc _) ((Below.refl n₀ w).alloc hn _) hn hgrow
            refine ⟨v', rfl, ?_, k1, k2⟩
            have e1 : (l ++ [b]).length = l.length + 1 := by simp
            have e2 : (l ++ [b]).map byteV = l.map byteV ++ [.int .u8 b] := by simp [byteV]
            rw [e1, e2]; exact hown1
          · have hE : byteT b = [92, 120, hexC (b / 16), hexC (b % 16)] := by unfold byteT; rw [if_neg c1, if_neg c2, if_neg c3, hsg, if_neg (by simp), if_neg c5]
            rw [hE]
            clear hE
            have hI1 : ∀ w', (Instr.index 9 (.string ⟨#[48, 49, 50, 51, 52, 53, 54, 55, 56, 57, 97, 98, 99, 100, 101, 102]⟩) (.int .u8 ((b : Int) / 16))).run Tryz.prog w' = .ok (.int .u8 (hexC (b / 16) : Nat)) w' := by
              rw [show ((b : Int) / 16) = ((b / 16 : Nat) : Int) by omega]; exact hex_ix (b / 16) (by omega)
            have hI2 : ∀ w', (Instr.index 9 (.string ⟨#[48, 49, 50, 51, 52, 53, 54, 55, 56, 57, 97, 98, 99, 100, 101, 102]⟩) (.int .u8 ((b : Int) % 16))).run Tryz.prog w' = .ok (.int .u8 (hexC (b % 16) : Nat)) w' := by
              rw [show ((b : Int) % 16) = ((b % 16 : Nat) : Int) by omega]; exact hex_ix (b % 16) (by omega)
            have hb15 : bits .and .u8 (b : Int) 15 = (b : Int) % 16 := by
              have h := u8_and_nat b 15 hb (by omega)
              rw [and15] at h
              exact h.trans (by omega)
            by_cases c6 : 32 < b
            · have c7 : ¬ b ≤ 126 := fun h => c5 ⟨c6, h⟩
              go_enter Tryz.func91, Tryz.ntmps91
              go_wp2_with (go_at_call 107; refine (HS _).out.mono ?_; rintro e w' ⟨rfl, rfl⟩)
              clear HS hsg
              go_region_law (first | (refine step_append_lies _ (by rfl) _ _ _ (by rfl) n₀ 5 i0 (.int .u8 0) 1 1 Tryz.underlying58 hi hz0 hz1 hz2 rfl (by decide) _ _ _ (by rfl) (hown.alloc (.cells #[.int .u8 92, .int .u8 120, .int .u8 (hexC (b / 16) : Nat), .int .u8 (hexC (b % 16) : Nat)] 5)) ⟨w.heap.size, 0, none⟩ 4 4 [.int .u8 92, .int .u8 120, .int .u8 (hexC (b / 16) : Nat), .int .u8 (hexC (b % 16) : Nat)] (by rfl) (by rfl) (World.news_of_block (cs := #[.int .u8 92, .int .u8 120, .int .u8 (hexC (b / 16) : Nat), .int .u8 (hexC (b % 16) : Nat)]) (Blk.new w 5 _)) (by simp [Value.oneCell']) (by omega) (by unfold maxLen; omega) (by omega) (by simp; omega) _ rfl ?_; intro g cap w1 hown1 hgrow _ _))
              all_goals go_wp2
              all_goals go_ret
              all_goals obtain ⟨k1, k2⟩ := own_fin (w1 := (w.alloc _).drew) (hown.alloc _) ((Lib.OthersKept.refl 5 none w).alloc _).drew ((Below.refl n₀ w).alloc hn _).drew hn hgrow
              all_goals refine ⟨_, rfl, ?_, k1, k2⟩
              all_goals have e1 : (l ++ [92, 120, hexC (b / 16), hexC (b % 16)]).length = l.length + 4 := by simp
              all_goals have e2 : (l ++ [92, 120, hexC (b / 16), hexC (b % 16)]).map byteV = l.map byteV ++ [.int .u8 92, .int .u8 120, .int .u8 (hexC (b / 16) : Nat), .int .u8 (hexC (b % 16) : Nat)] := by simp [byteV]
              all_goals rw [e1, e2]
              all_goals exact hown1
            · go_enter Tryz.func91, Tryz.ntmps91
              go_wp2_with (go_at_call 107; refine (HS _).out.mono ?_; rintro e w' ⟨rfl, rfl⟩)
              clear HS hsg
              go_region_law (first | (refine step_append_lies _ (by rfl) _ _ _ (by rfl) n₀ 5 i0 (.int .u8 0) 1 1 Tryz.underlying58 hi hz0 hz1 hz2 rfl (by decide) _ _ _ (by rfl) (hown.alloc (.cells #[.int .u8 92, .int .u8 120, .int .u8 (hexC (b / 16) : Nat), .int .u8 (hexC (b % 16) : Nat)] 5)) ⟨w.heap.size, 0, none⟩ 4 4 [.int .u8 92, .int .u8 120, .int .u8 (hexC (b / 16) : Nat), .int .u8 (hexC (b % 16) : Nat)] (by rfl) (by rfl) (World.news_of_block (cs := #[.int .u8 92, .int .u8 120, .int .u8 (hexC (b / 16) : Nat), .int .u8 (hexC (b % 16) : Nat)]) (Blk.new w 5 _)) (by simp [Value.oneCell']) (by omega) (by unfold maxLen; omega) (by omega) (by simp; omega) _ rfl ?_; intro g cap w1 hown1 hgrow _ _))
              all_goals go_wp2
              all_goals go_ret
              all_goals obtain ⟨k1, k2⟩ := own_fin (w1 := (w.alloc _).drew) (hown.alloc _) ((Lib.OthersKept.refl 5 none w).alloc _).drew ((Below.refl n₀ w).alloc hn _).drew hn hgrow
              all_goals refine ⟨_, rfl, ?_, k1, k2⟩
              all_goals have e1 : (l ++ [92, 120, hexC (b / 16), hexC (b % 16)]).length = l.length + 4 := by simp
              all_goals have e2 : (l ++ [92, 120, hexC (b / 16), hexC (b % 16)]).map byteV = l.map byteV ++ [.int .u8 92, .int .u8 120, .int .u8 (hexC (b / 16) : Nat), .int .u8 (hexC (b % 16) : Nat)] := by simp [byteV]
              all_goals rw [e1, e2]
              all_goals exact hown1
end Go.Proofs.YtdodkbpagbblmaaGreatDoor
end
section
namespace Go.Proofs.YtdodkbpagbblmaaGreatDoor
open Go Go.RowKit

theorem blk_others {W W' : World} {B t : Nat} {cs : Array Value} (h : Blk W B t cs) (ht : t ≠ 5) (hk : Lib.OthersKept 5 none W W') : Blk W' B t cs :=
  hk B _ h (by simp) (fun c fz e => by cases e; exact ht rfl)

/-- A range's text. -/
def rangeT (r : Nat × Nat) : List Nat :=
  if r.1 = r.2 then byteT r.1 else if 1 < (r.2 + 256 - r.1) % 256 then byteT r.1 ++ [45] ++ byteT r.2 else byteT r.1 ++ byteT r.2

theorem byteT_len (b : Nat) : (byteT b).length ≤ 4 := by
  unfold byteT
  repeat (split; simp)
  simp

set_option maxRecDepth 100000 in
set_option maxHeartbeats 4000000 in
theorem appendRange_any (v : Value) (l : List Nat) (r : Nat × Nat) (h1 : r.1 < 256) (h2 : r.2 < 256) (n₀ : Nat) (w : World) (hown : w.ownsRow n₀ 5 1 v l.length (l.map byteV)) (hn : n₀ ≤ w.heap.size) (hl : l.length ≤ 1000000) :
    Calls Tryz.prog 71 #[v, .agg #[.int .u8 r.1, .int .u8 r.2]] w (bytePost (l ++ rangeT r) n₀ w) := by
  obtain ⟨i0, hi, hz0, hz1, hz2⟩ := info_parts Tryz.info5
  obtain ⟨f, t⟩ := r
  dsimp only at h1 h2 ⊢
  have HA := Lib.hid (appendByte_any v l f h1 n₀ (w.alloc (.cells #[.int .u8 f, .int .u8 t] 103)) (hown.alloc _) (by simp; omega) (by omega))
  have hlen1 := byteT_len f
  go_enter Tryz.func71, Tryz.ntmps71
  go_wp2_with fail
  refine HA.out.mono ?_
  rintro e w1 ⟨v1, rfl, hown1, hk1, hB1⟩
  have hb1 := blk_others (Blk.new w 103 #[.int .u8 f, .int .u8 t]) (by decide) hk1
  have c0 : w1.cell? ⟨w.heap.size, 0, none⟩ = some (.int .u8 f) := hb1.cell 0
  have c1 : w1.cell? ⟨w.heap.size, 1, none⟩ = some (.int .u8 t) := hb1.cell 1
  have HK1 := Lib.hid (((Lib.OthersKept.refl 5 none w).alloc (.cells #[.int .u8 f, .int .u8 t] 103)).trans hk1)
  have HB1 := Lib.hid (((Below.refl n₀ w).alloc hn (.cells #[.int .u8 f, .int .u8 t] 103)).trans hB1)
  have HO1 := Lib.hid hown1
  have hn1 : n₀ ≤ w1.heap.size := Nat.le_trans (by simp; omega) hB1.size
  have hll : (l ++ byteT f).length ≤ 1000010 := by simp; omega
  have HBK := Lib.hid hb1
  clear hk1 hB1 HA hb1
  by_cases e1 : f = t
  · subst e1
    have hR : rangeT (f, f) = byteT f := by unfold rangeT; simp
    have HRR := Lib.hid hR
    clear hR
    go_wp2
    go_ret
    exact ⟨v1, rfl, by rw [HRR.out]; exact HO1.out, HK1.out, HB1.out⟩
  · have e1' : ((f : Int) == (t : Int)) = false := by simpa using fun h => e1 (by omega)
    have hsub : IntKind.u8.wrap ((t : Int) - (f : Int)) = (((t + 256 - f) % 256 : Nat) : Int) := by rw [IntKind.wrap_u8']; omega
    obtain ⟨l1, hl1⟩ : ∃ l1, l1 = l ++ byteT f := ⟨_, rfl⟩
    rw [← hl1] at HO1 hll
    have HA2 : Hid (∀ (l2 : List Nat) (v2 : Value) (w2 : World), l2.length ≤ 1000020 → w2.ownsRow n₀ 5 1 v2 l2.length (l2.map byteV) → n₀ ≤ w2.heap.size → Calls Tryz.prog 91 #[v2, .int .u8 t] w2 (bytePost (l2 ++ byteT t) n₀ w2)) :=
      fun l2 v2 w2 a b c => appendByte_any v2 l2 t h2 n₀ w2 b c (by omega)
    clear hown1
    by_cases e2 : 1 < (t + 256 - f) % 256
    · have hR : Hid (l ++ rangeT (f, t) = (l1 ++ [45]) ++ byteT t) := by refine Lib.hid ?_; unfold rangeT; rw [hl1, if_neg e1, if_pos e2]; simp
      clear hl1
      have e2' : (1 : Int) < ((t : Int) - (f : Int)) % 256 := by omega
      go_wp2_with (first
        | (at_builtin; refine wpList_append_own _ rfl _ _ 58 rfl n₀ 5 i0 (.int .u8 0) 1 1 Tryz.underlying58 hi hz0 hz1 hz2 rfl (by decide) _ _ _ rfl (HO1.out.alloc _) ⟨w1.heap.size, 0, none⟩ 1 1 [.int .u8 45] rfl rfl (cell_one_new _ _ _) (by simp [Value.oneCell']) (by unfold maxLen; omega) (by omega) (by simp; omega) ?_; intro v2 w2 hown2 hgrow _; have hf2 := own_fin (HO1.out.alloc _) ((Lib.OthersKept.refl 5 none w1).alloc _) ((Below.refl n₀ w1).alloc hn1 _) hn1 hgrow; have d1 : w2.cell? ⟨w.heap.size, 1, none⟩ = some (.int .u8 t) := (blk_others HBK.out (by decide) hf2.1).cell 1)
        | fail)
      have HO2 : w2.ownsRow n₀ 5 1 v2 (l1 ++ [45]).length ((l1 ++ [45]).map byteV) := by
        have a1 : (l1 ++ [45]).length = l1.length + 1 := by simp
        have a2 : (l1 ++ [45]).map byteV = l1.map byteV ++ [.int .u8 45] := by simp [byteV]
        rw [a1, a2]; exact hown2
      refine (HA2.out (l1 ++ [45]) v2 w2 (by simp; omega) HO2 (Nat.le_trans hn1 hf2.2.size)).mono ?_
      rintro e w3 ⟨v3, rfl, hown3, hk3, hB3⟩
      go_wp2
      go_ret
      exact ⟨v3, rfl, by rw [hR.out]; exact hown3, (HK1.out.trans hf2.1).trans hk3, (HB1.out.trans hf2.2).trans hB3⟩
    · have hR : Hid (l ++ rangeT (f, t) = l1 ++ byteT t) := by refine Lib.hid ?_; unfold rangeT; rw [hl1, if_neg e1, if_neg e2]; simp
      clear hl1
      have e2' : ¬ (1 : Int) < ((t : Int) - (f : Int)) % 256 := by omega
      go_wp2_with fail
      refine (HA2.out l1 v1 w1 (by omega) HO1.out hn1).mono ?_
      rintro e w3 ⟨v3, rfl, hown3, hk3, hB3⟩
      go_wp2
      go_ret
      exact ⟨v3, rfl, by rw [hR.out]; exact hown3, HK1.out.trans hk3, HB1.out.trans hB3⟩
end Go.Proofs.YtdodkbpagbblmaaGreatDoor
end
section
namespace Go.Proofs.YtdodkbpagbblmaaGreatDoor
open Go Go.RowKit

theorem byteSum_lt (g : Nat → Nat) (h : ∀ b : Fin 256, g b.val < 256) : ∀ n x, byteSum g n x < 256 ^ n := by
  intro n
  induction n with
  | zero => intro x; simp [byteSum]
  | succ n ih =>
    intro x
    have h1 := h ⟨x % 256, by omega⟩
    have h2 := ih (x / 256)
    dsimp only at h1
    rw [byteSum, Nat.pow_succ]
    generalize 256 ^ n = Q at *
    omega

def rep : Nat → Nat
  | 0 => 0
  | n + 1 => 1 + 256 * rep n
theorem byteSum_le (g : Nat → Nat) (c : Nat) (h : ∀ b : Fin 256, g b.val ≤ c) : ∀ n x, byteSum g n x ≤ c * rep n := by
  intro n
  induction n with
  | zero => intro x; simp [byteSum]
  | succ n ih =>
    intro x
    have h1 := h ⟨x % 256, by omega⟩
    have h2 := ih (x / 256)
    dsimp only at h1
    rw [byteSum, rep, Nat.mul_add, Nat.mul_one, Nat.mul_left_comm]
    generalize c * rep n = Q at *
    omega

theorem wrapu (a : Nat) (h : a < 18446744073709551616) : IntKind.u64.wrap (a : Int) = (a : Int) := by rw [IntKind.wrap_u64]; omega

theorem ofInt_wrap64 (n : Int) : BitVec.ofInt 64 (wrap64 n) = BitVec.ofInt 64 n := by
  apply BitVec.eq_of_toNat_eq
  rw [BitVec.toNat_ofInt, BitVec.toNat_ofInt]
  congr 1
  unfold wrap64
  omega

theorem and127 (n : Nat) (h : n < 18446744073709551616) : bits .and .i64 (wrap64 (n : Int)) 127 = ((n % 128 : Nat) : Int) := by
  show IntKind.i64.wrap ((BitVec.ofInt 64 (wrap64 (n : Int)) &&& BitVec.ofInt 64 127).toNat : Int) = _
  rw [ofInt_wrap64, BitVec.toNat_and, BitVec.ofInt_natCast, BitVec.toNat_ofNat, Nat.mod_eq_of_lt h]
  rw [show (BitVec.ofInt 64 127).toNat = 2 ^ 7 - 1 by decide, Nat.and_two_pow_sub_one_eq_mod]
  have : n % 2 ^ 7 < 128 := Nat.mod_lt _ (by decide)
  show IntKind.i64.wrap ((n % 128 : Nat) : Int) = _
  have hm : n % 128 < 128 := this
  generalize n % 128 = m at hm
  simp [IntKind.wrap, IntKind.bits, IntKind.signed]
  omega

set_option maxRecDepth 100000 in
set_option maxHeartbeats 2000000 in
theorem onesCount_any (x : Nat) (hx : x < 18446744073709551616) (w : World) :
    Calls Tryz.prog 89 #[.int .u64 x] w fun e w' => e = .returned (.int .i64 (pc x 64)) ∧ w = w' := by
  have m1 : mask 85 8 = 6148914691236517205 := by decide
  have m2 : mask 51 8 = 3689348814741910323 := by decide
  have m3 : mask 15 8 = 1085102592571150095 := by decide
  have k1 := sum1 8 x
  have k2 := sum2 8 x
  have k3 := sum3 8 x
  have l1 : byteSum s1 8 x < 18446744073709551616 := byteSum_lt _ (fun b => by have := s1_le b; omega) 8 x
  have l2 : byteSum (fun b => s2 (s1 b)) 8 x < 18446744073709551616 := byteSum_lt _ (fun b => by have := s2_le b; omega) 8 x
  obtain ⟨a0, a1, a2, a3, a4, a5, a6, a7, hy, h0, h1, h2, h3, h4, h5, h6, h7, hpc⟩ := byteSum8 x
  obtain ⟨y, hY⟩ : ∃ y, y = byteSum (fun b => pc b 8) 8 x := ⟨_, rfl⟩
  rw [← hY] at hy k3
  obtain ⟨ly, t1, t2, t3, e1, e2, e3, b1, b2, b3, hlast⟩ := last_step a0 a1 a2 a3 a4 a5 a6 a7 h0 h1 h2 h3 h4 h5 h6 h7 y hy
  rw [← hpc] at hlast
  clear hy h0 h1 h2 h3 h4 h5 h6 h7 hpc hY
  rw [m1] at k1
  rw [m2] at k2
  rw [m3] at k3
  clear m1 m2 m3
  generalize byteSum s1 8 x = X1 at *
  have l3 : byteSum (fun b => s2 (s1 b)) 8 x / 16 + byteSum (fun b => s2 (s1 b)) 8 x < 18446744073709551616 := by
    have h := byteSum_le (fun b => s2 (s1 b)) 68 (fun b => (s2_le b).1) 8 x
    rw [show 68 * rep 8 = 4919131752989213764 by decide] at h
    omega
  generalize byteSum (fun b => s2 (s1 b)) 8 x = X2 at *
  have q1 := bits_and_u64_nat (x / 2) 6148914691236517205 (by omega) (by omega)
  have q2 := bits_and_u64_nat x 6148914691236517205 hx (by omega)
  have q3 := bits_and_u64_nat (X1 / 4) 3689348814741910323 (by omega) (by omega)
  have q4 := bits_and_u64_nat X1 3689348814741910323 l1 (by omega)
  have q5 := bits_and_u64_nat (X2 / 16 + X2) 1085102592571150095 l3 (by omega)
  rw [k3] at q5
  generalize pc x 64 = N at *
  have r1 : IntKind.u64.wrap (bits .and .u64 ((x : Int) / 2) 6148914691236517205 + bits .and .u64 (x : Int) 6148914691236517205) = (X1 : Int) := by
    rw [show ((x : Int) / 2) = ((x / 2 : Nat) : Int) by omega]
    refine (congrArg IntKind.u64.wrap ?_).trans (wrapu X1 l1)
    rw [← k1]
    exact (congr (congrArg HAdd.hAdd q1) q2).trans (Int.natCast_add _ _).symm
  have r2 : IntKind.u64.wrap (bits .and .u64 ((X1 : Int) / 4) 3689348814741910323 + bits .and .u64 (X1 : Int) 3689348814741910323) = (X2 : Int) := by
    rw [show ((X1 : Int) / 4) = ((X1 / 4 : Nat) : Int) by omega]
    refine (congrArg IntKind.u64.wrap ?_).trans (wrapu X2 l2)
    rw [← k2]
    exact (congr (congrArg HAdd.hAdd q3) q4).trans (Int.natCast_add _ _).symm
  have r3 : bits .and .u64 (IntKind.u64.wrap ((X2 : Int) / 16 + (X2 : Int))) 1085102592571150095 = (y : Int) := by
    have e : IntKind.u64.wrap ((X2 : Int) / 16 + (X2 : Int)) = ((X2 / 16 + X2 : Nat) : Int) := by
      rw [show ((X2 : Int) / 16 + (X2 : Int)) = ((X2 / 16 + X2 : Nat) : Int) by omega]; exact wrapu _ l3
    rw [e]; exact q5
  have r4 : IntKind.u64.wrap ((y : Int) + (y : Int) / 256) = (t1 : Int) := by
    rw [show ((y : Int) + (y : Int) / 256) = ((y + y / 256 : Nat) : Int) by omega, ← e1]; exact wrapu _ b1
  have r5 : IntKind.u64.wrap ((t1 : Int) + (t1 : Int) / 65536) = (t2 : Int) := by
    rw [show ((t1 : Int) + (t1 : Int) / 65536) = ((t1 + t1 / 65536 : Nat) : Int) by omega, ← e2]; exact wrapu _ b2
  have r6 : IntKind.u64.wrap ((t2 : Int) + (t2 : Int) / 4294967296) = (t3 : Int) := by
    rw [show ((t2 : Int) + (t2 : Int) / 4294967296) = ((t2 + t2 / 4294967296 : Nat) : Int) by omega, ← e3]; exact wrapu _ b3
  have HN := Lib.hid hlast
  have B3 := Lib.hid b3
  clear q1 q2 q3 q4 q5 k1 k2 k3 l1 l2 l3 e1 e2 e3 b1 b2 b3 hlast ly hx
  go_enter Tryz.func89, Tryz.ntmps89
  go_wp2
  go_ret
  exact ⟨by rw [and127 t3 B3.out, HN.out]; rfl, rfl⟩

theorem pc_words (x n : Nat) : pc x (64 + n) = pc (x % 2 ^ 64) 64 + pc (x / 2 ^ 64) n := by
  induction n with
  | zero =>
    have h : ∀ m, m ≤ 64 → pc x m = pc (x % 2 ^ 64) m := by
      intro m
      induction m with
      | zero => intro _; rfl
      | succ m ih =>
        intro hm
        rw [pc, pc, ih (by omega), Nat.testBit_mod_two_pow]
        simp [show m < 64 by omega]
    show pc x 64 = pc (x % 2 ^ 64) 64 + 0
    rw [h 64 (Nat.le_refl _), Nat.add_zero]
  | succ n ih =>
    have h : (x / 2 ^ 64).testBit n = x.testBit (64 + n) := by
      rw [Nat.add_comm 64 n]; exact Nat.testBit_div_two_pow x n
    show pc x (64 + n) + (if x.testBit (64 + n) then 1 else 0) = pc (x % 2 ^ 64) 64 + (pc (x / 2 ^ 64) n + (if (x / 2 ^ 64).testBit n then 1 else 0))
    rw [ih, h]
    omega

/-- How many bytes a set has. -/
def cnt (s : BS) : Nat := pc s.toNat 256

theorem wd_nat (s : BS) (i : Nat) : (wd s i).toNat = s.toNat / 2 ^ (64 * i) % 2 ^ 64 := by
  unfold wd; rw [BitVec.extractLsb'_toNat, Nat.shiftRight_eq_div_pow]

theorem cnt_words (s : BS) : cnt s = pc (wd s 0).toNat 64 + pc (wd s 1).toNat 64 + pc (wd s 2).toNat 64 + pc (wd s 3).toNat 64 := by
  have hlt := s.isLt
  unfold cnt
  rw [wd_nat, wd_nat, wd_nat, wd_nat]
  generalize s.toNat = x at *
  have g0 : pc x 256 = pc (x % 2 ^ 64) 64 + pc (x / 2 ^ 64) 192 := pc_words x 192
  have g1 : pc (x / 2 ^ 64) 192 = pc (x / 2 ^ 64 % 2 ^ 64) 64 + pc (x / 2 ^ 64 / 2 ^ 64) 128 := pc_words (x / 2 ^ 64) 128
  have g2 : pc (x / 2 ^ 64 / 2 ^ 64) 128 = pc (x / 2 ^ 64 / 2 ^ 64 % 2 ^ 64) 64 + pc (x / 2 ^ 64 / 2 ^ 64 / 2 ^ 64) 64 := pc_words (x / 2 ^ 64 / 2 ^ 64) 64
  have i1 : x / 2 ^ (64 * 1) = x / 2 ^ 64 := rfl
  have i2 : x / 2 ^ (64 * 2) = x / 2 ^ 64 / 2 ^ 64 := by rw [Nat.div_div_eq_div_mul]
  have i3 : x / 2 ^ (64 * 3) = x / 2 ^ 64 / 2 ^ 64 / 2 ^ 64 := by rw [Nat.div_div_eq_div_mul, Nat.div_div_eq_div_mul]
  have i0 : x / 2 ^ (64 * 0) = x := by simp
  have i4 : x / 2 ^ 64 / 2 ^ 64 / 2 ^ 64 % 2 ^ 64 = x / 2 ^ 64 / 2 ^ 64 / 2 ^ 64 := by
    apply Nat.mod_eq_of_lt
    rw [Nat.div_div_eq_div_mul, Nat.div_div_eq_div_mul]
    apply Nat.div_lt_of_lt_mul
    exact hlt
  rw [i0, i1, i2, i3, i4, g0, g1, g2, Nat.add_assoc, Nat.add_assoc]

theorem pc_le (x : Nat) : ∀ n, pc x n ≤ n := by
  intro n
  induction n with
  | zero => exact Nat.le_refl _
  | succ n ih => rw [pc]; split <;> omega

set_option maxRecDepth 100000 in
set_option maxHeartbeats 2000000 in
theorem count_any (s : BS) (w : World) : Calls Tryz.prog 68 #[vset s] w fun e w' => e = .returned (.int .i64 (cnt s)) ∧ Below w.heap.size w w' := by
  have HC := Lib.hid (cnt_words s)
  obtain ⟨N, hN⟩ : ∃ N, N = cnt s := ⟨_, rfl⟩
  rw [← hN] at HC ⊢
  clear hN
  have O0 : Hid (∀ w', Calls Tryz.prog 89 #[.int .u64 (wdI s 0)] w' fun e w'' => e = .returned (.int .i64 (pc (wd s 0).toNat 64)) ∧ w' = w'') := fun w' => onesCount_any _ (wd s 0).isLt w'
  have O1 : Hid (∀ w', Calls Tryz.prog 89 #[.int .u64 (wdI s 1)] w' fun e w'' => e = .returned (.int .i64 (pc (wd s 1).toNat 64)) ∧ w' = w'') := fun w' => onesCount_any _ (wd s 1).isLt w'
  have O2 : Hid (∀ w', Calls Tryz.prog 89 #[.int .u64 (wdI s 2)] w' fun e w'' => e = .returned (.int .i64 (pc (wd s 2).toNat 64)) ∧ w' = w'') := fun w' => onesCount_any _ (wd s 2).isLt w'
  have O3 : Hid (∀ w', Calls Tryz.prog 89 #[.int .u64 (wdI s 3)] w' fun e w'' => e = .returned (.int .i64 (pc (wd s 3).toNat 64)) ∧ w' = w'') := fun w' => onesCount_any _ (wd s 3).isLt w'
  have p0 := pc_le (wd s 0).toNat 64
  have p1 := pc_le (wd s 1).toNat 64
  have p2 := pc_le (wd s 2).toNat 64
  have p3 := pc_le (wd s 3).toNat 64
  generalize pc (wd s 0).toNat 64 = n0 at *
  generalize pc (wd s 1).toNat 64 = n1 at *
  generalize pc (wd s 2).toNat 64 = n2 at *
  generalize pc (wd s 3).toNat 64 = n3 at *
  have i0 := ix0 (wdI s 0) (wdI s 1) (wdI s 2) (wdI s 3)
  have i1 := ix1 (wdI s 0) (wdI s 1) (wdI s 2) (wdI s 3)
  have i2 := ix2 (wdI s 0) (wdI s 1) (wdI s 2) (wdI s 3)
  have i3 := ix3 (wdI s 0) (wdI s 1) (wdI s 2) (wdI s 3)
  unfold vset
  go_enter Tryz.func68, Tryz.ntmps68
  go_wp2
  go_loopw [3, 7] (fun a i wr => ∃ (k m : Nat), i = .int .i64 k ∧ a = .int .i64 m ∧ wr = w.alloc (.cells #[.int .u64 (wdI s 0), .int .u64 (wdI s 1), .int .u64 (wdI s 2), .int .u64 (wdI s 3)] 33) ∧ (k = 0 ∧ m = 0 ∨ k = 1 ∧ m = n0 ∨ k = 2 ∧ m = n0 + n1 ∨ k = 3 ∧ m = n0 + n1 + n2 ∨ k = 4 ∧ m = N))
    (fun _ i _ => 4 - (intOf i).toNat)
  case atStart => exact ⟨0, 0, rfl, rfl, rfl, .inl ⟨rfl, rfl⟩⟩
  case round =>
    obtain ⟨k, m, rfl, rfl, rfl, hk⟩ := hrel
    have hm : m ≤ 256 := by have := HC.out; omega
    rcases hk with ⟨rfl, hm2⟩ | ⟨rfl, hm2⟩ | ⟨rfl, hm2⟩ | ⟨rfl, hm2⟩ | ⟨rfl, rfl⟩
    · have HM := Lib.hid hm2
      clear hm2
      go_wp2_with (go_at_call 89; refine (O0.out _).mono ?_; rintro e w' ⟨rfl, rfl⟩)
      go_roundw
      case rel => exact ⟨1, m + n0, by go_num, by go_num, by first | rfl | trivial, .inr (.inl ⟨rfl, by rw [HM.out, Nat.zero_add]⟩)⟩
      case measure => simp [intOf]
    · have HM := Lib.hid hm2
      clear hm2
      go_wp2_with (go_at_call 89; refine (O1.out _).mono ?_; rintro e w' ⟨rfl, rfl⟩)
      go_roundw
      case rel => exact ⟨2, m + n1, by go_num, by go_num, by first | rfl | trivial, .inr (.inr (.inl ⟨rfl, by rw [HM.out]⟩))⟩
      case measure => simp [intOf]
    · have HM := Lib.hid hm2
      clear hm2
      go_wp2_with (go_at_call 89; refine (O2.out _).mono ?_; rintro e w' ⟨rfl, rfl⟩)
      go_roundw
      case rel => exact ⟨3, m + n2, by go_num, by go_num, by first | rfl | trivial, .inr (.inr (.inr (.inl ⟨rfl, by rw [HM.out]⟩)))⟩
      case measure => simp [intOf]
    · have HM := Lib.hid hm2
      clear hm2
      go_wp2_with (go_at_call 89; refine (O3.out _).mono ?_; rintro e w' ⟨rfl, rfl⟩)
      go_roundw
      case rel => exact ⟨4, m + n3, by go_num, by go_num, by first | rfl | trivial, .inr (.inr (.inr (.inr ⟨rfl, by rw [HM.out, HC.out]⟩)))⟩
      case measure => simp [intOf]
    · go_wp2
      go_ret
      exact ⟨rfl, (Below.refl _ w).alloc (Nat.le_refl _) _⟩

end Go.Proofs.YtdodkbpagbblmaaGreatDoor
end
