import Derived.Test.YtdodkbpagbblmaaDoorB
import Derived.Test.YtdodkbpagbblmaaDoorH
namespace Go.Proofs.YtdodkbpagbblmaaDoor
open Go Go.RowKit

theorem byteSum_lt (g : Nat → Nat) (h : ∀ b : Fin 256, g b.val < 256) : ∀ n x, byteSum g n x < 256 ^ n := by
  intro n
  induction n with
  | zero => intro x; simp [byteSum]
  | succ n ih =>
    intro x
    have h1 := h ⟨x % 256, by omega⟩
    have h2 := ih (x / 256)
    dsimp only at h1
    rw [byteSum, Nat.pow_succ]
    generalize 256 ^ n = Q at *
    omega

def rep : Nat → Nat
  | 0 => 0
  | n + 1 => 1 + 256 * rep n
theorem byteSum_le (g : Nat → Nat) (c : Nat) (h : ∀ b : Fin 256, g b.val ≤ c) : ∀ n x, byteSum g n x ≤ c * rep n := by
  intro n
  induction n with
  | zero => intro x; simp [byteSum]
  | succ n ih =>
    intro x
    have h1 := h ⟨x % 256, by omega⟩
    have h2 := ih (x / 256)
    dsimp only at h1
    rw [byteSum, rep, Nat.mul_add, Nat.mul_one, Nat.mul_left_comm]
    generalize c * rep n = Q at *
    omega

theorem wrapu (a : Nat) (h : a < 18446744073709551616) : IntKind.u64.wrap (a : Int) = (a : Int) := by rw [IntKind.wrap_u64]; omega

theorem ofInt_wrap64 (n : Int) : BitVec.ofInt 64 (wrap64 n) = BitVec.ofInt 64 n := by
  apply BitVec.eq_of_toNat_eq
  rw [BitVec.toNat_ofInt, BitVec.toNat_ofInt]
  congr 1
  unfold wrap64
  omega

theorem and127 (n : Nat) (h : n < 18446744073709551616) : bits .and .i64 (wrap64 (n : Int)) 127 = ((n % 128 : Nat) : Int) := by
  show IntKind.i64.wrap ((BitVec.ofInt 64 (wrap64 (n : Int)) &&& BitVec.ofInt 64 127).toNat : Int) = _
  rw [ofInt_wrap64, BitVec.toNat_and, BitVec.ofInt_natCast, BitVec.toNat_ofNat, Nat.mod_eq_of_lt h]
  rw [show (BitVec.ofInt 64 127).toNat = 2 ^ 7 - 1 by decide, Nat.and_two_pow_sub_one_eq_mod]
  have : n % 2 ^ 7 < 128 := Nat.mod_lt _ (by decide)
  show IntKind.i64.wrap ((n % 128 : Nat) : Int) = _
  have hm : n % 128 < 128 := this
  generalize n % 128 = m at hm
  simp [IntKind.wrap, IntKind.bits, IntKind.signed]
  omega

set_option maxRecDepth 100000 in
set_option maxHeartbeats 2000000 in
theorem onesCount_any (x : Nat) (hx : x < 18446744073709551616) (w : World) :
    Calls Tryd.prog 63 #[.int .u64 x] w fun e w' => e = .returned (.int .i64 (pc x 64)) ∧ w = w' := by
  have m1 : mask 85 8 = 6148914691236517205 := by decide
  have m2 : mask 51 8 = 3689348814741910323 := by decide
  have m3 : mask 15 8 = 1085102592571150095 := by decide
  have k1 := sum1 8 x
  have k2 := sum2 8 x
  have k3 := sum3 8 x
  have l1 : byteSum s1 8 x < 18446744073709551616 := byteSum_lt _ (fun b => by have := s1_le b; omega) 8 x
  have l2 : byteSum (fun b => s2 (s1 b)) 8 x < 18446744073709551616 := byteSum_lt _ (fun b => by have := s2_le b; omega) 8 x
  obtain ⟨a0, a1, a2, a3, a4, a5, a6, a7, hy, h0, h1, h2, h3, h4, h5, h6, h7, hpc⟩ := byteSum8 x
  obtain ⟨y, hY⟩ : ∃ y, y = byteSum (fun b => pc b 8) 8 x := ⟨_, rfl⟩
  rw [← hY] at hy k3
  obtain ⟨ly, t1, t2, t3, e1, e2, e3, b1, b2, b3, hlast⟩ := last_step a0 a1 a2 a3 a4 a5 a6 a7 h0 h1 h2 h3 h4 h5 h6 h7 y hy
  rw [← hpc] at hlast
  clear hy h0 h1 h2 h3 h4 h5 h6 h7 hpc hY
  rw [m1] at k1
  rw [m2] at k2
  rw [m3] at k3
  clear m1 m2 m3
  generalize byteSum s1 8 x = X1 at *
  have l3 : byteSum (fun b => s2 (s1 b)) 8 x / 16 + byteSum (fun b => s2 (s1 b)) 8 x < 18446744073709551616 := by
    have h := byteSum_le (fun b => s2 (s1 b)) 68 (fun b => (s2_le b).1) 8 x
    rw [show 68 * rep 8 = 4919131752989213764 by decide] at h
    omega
  generalize byteSum (fun b => s2 (s1 b)) 8 x = X2 at *
  have q1 := bits_and_u64_nat (x / 2) 6148914691236517205 (by omega) (by omega)
  have q2 := bits_and_u64_nat x 6148914691236517205 hx (by omega)
  have q3 := bits_and_u64_nat (X1 / 4) 3689348814741910323 (by omega) (by omega)
  have q4 := bits_and_u64_nat X1 3689348814741910323 l1 (by omega)
  have q5 := bits_and_u64_nat (X2 / 16 + X2) 1085102592571150095 l3 (by omega)
  rw [k3] at q5
  generalize pc x 64 = N at *
  have r1 : IntKind.u64.wrap (bits .and .u64 ((x : Int) / 2) 6148914691236517205 + bits .and .u64 (x : Int) 6148914691236517205) = (X1 : Int) := by
    rw [show ((x : Int) / 2) = ((x / 2 : Nat) : Int) by omega]
    refine (congrArg IntKind.u64.wrap ?_).trans (wrapu X1 l1)
    rw [← k1]
    exact (congr (congrArg HAdd.hAdd q1) q2).trans (Int.natCast_add _ _).symm
  have r2 : IntKind.u64.wrap (bits .and .u64 ((X1 : Int) / 4) 3689348814741910323 + bits .and .u64 (X1 : Int) 3689348814741910323) = (X2 : Int) := by
    rw [show ((X1 : Int) / 4) = ((X1 / 4 : Nat) : Int) by omega]
    refine (congrArg IntKind.u64.wrap ?_).trans (wrapu X2 l2)
    rw [← k2]
    exact (congr (congrArg HAdd.hAdd q3) q4).trans (Int.natCast_add _ _).symm
  have r3 : bits .and .u64 (IntKind.u64.wrap ((X2 : Int) / 16 + (X2 : Int))) 1085102592571150095 = (y : Int) := by
    have e : IntKind.u64.wrap ((X2 : Int) / 16 + (X2 : Int)) = ((X2 / 16 + X2 : Nat) : Int) := by
      rw [show ((X2 : Int) / 16 + (X2 : Int)) = ((X2 / 16 + X2 : Nat) : Int) by omega]; exact wrapu _ l3
    rw [e]; exact q5
  have r4 : IntKind.u64.wrap ((y : Int) + (y : Int) / 256) = (t1 : Int) := by
    rw [show ((y : Int) + (y : Int) / 256) = ((y + y / 256 : Nat) : Int) by omega, ← e1]; exact wrapu _ b1
  have r5 : IntKind.u64.wrap ((t1 : Int) + (t1 : Int) / 65536) = (t2 : Int) := by
    rw [show ((t1 : Int) + (t1 : Int) / 65536) = ((t1 + t1 / 65536 : Nat) : Int) by omega, ← e2]; exact wrapu _ b2
  have r6 : IntKind.u64.wrap ((t2 : Int) + (t2 : Int) / 4294967296) = (t3 : Int) := by
    rw [show ((t2 : Int) + (t2 : Int) / 4294967296) = ((t2 + t2 / 4294967296 : Nat) : Int) by omega, ← e3]; exact wrapu _ b3
  have HN := Lib.hid hlast
  have B3 := Lib.hid b3
  clear q1 q2 q3 q4 q5 k1 k2 k3 l1 l2 l3 e1 e2 e3 b1 b2 b3 hlast ly hx
  go_enter Tryd.func63, Tryd.ntmps63
  go_wp2
  go_ret
  exact ⟨by rw [and127 t3 B3.out, HN.out]; rfl, rfl⟩

theorem pc_words (x n : Nat) : pc x (64 + n) = pc (x % 2 ^ 64) 64 + pc (x / 2 ^ 64) n := by
  induction n with
  | zero =>
    have h : ∀ m, m ≤ 64 → pc x m = pc (x % 2 ^ 64) m := by
      intro m
      induction m with
      | zero => intro _; rfl
      | succ m ih =>
        intro hm
        rw [pc, pc, ih (by omega), Nat.testBit_mod_two_pow]
        simp [show m < 64 by omega]
    show pc x 64 = pc (x % 2 ^ 64) 64 + 0
    rw [h 64 (Nat.le_refl _), Nat.add_zero]
  | succ n ih =>
    have h : (x / 2 ^ 64).testBit n = x.testBit (64 + n) := by
      rw [Nat.add_comm 64 n]; exact Nat.testBit_div_two_pow x n
    show pc x (64 + n) + (if x.testBit (64 + n) then 1 else 0) = pc (x % 2 ^ 64) 64 + (pc (x / 2 ^ 64) n + (if (x / 2 ^ 64).testBit n then 1 else 0))
    rw [ih, h]
    omega

/-- How many bytes a set has. -/
def cnt (s : BS) : Nat := pc s.toNat 256

theorem wd_nat (s : BS) (i : Nat) : (wd s i).toNat = s.toNat / 2 ^ (64 * i) % 2 ^ 64 := by
  unfold wd; rw [BitVec.extractLsb'_toNat, Nat.shiftRight_eq_div_pow]

theorem cnt_words (s : BS) : cnt s = pc (wd s 0).toNat 64 + pc (wd s 1).toNat 64 + pc (wd s 2).toNat 64 + pc (wd s 3).toNat 64 := by
  have hlt := s.isLt
  unfold cnt
  rw [wd_nat, wd_nat, wd_nat, wd_nat]
  generalize s.toNat = x at *
  have g0 : pc x 256 = pc (x % 2 ^ 64) 64 + pc (x / 2 ^ 64) 192 := pc_words x 192
  have g1 : pc (x / 2 ^ 64) 192 = pc (x / 2 ^ 64 % 2 ^ 64) 64 + pc (x / 2 ^ 64 / 2 ^ 64) 128 := pc_words (x / 2 ^ 64) 128
  have g2 : pc (x / 2 ^ 64 / 2 ^ 64) 128 = pc (x / 2 ^ 64 / 2 ^ 64 % 2 ^ 64) 64 + pc (x / 2 ^ 64 / 2 ^ 64 / 2 ^ 64) 64 := pc_words (x / 2 ^ 64 / 2 ^ 64) 64
  have i1 : x / 2 ^ (64 * 1) = x / 2 ^ 64 := rfl
  have i2 : x / 2 ^ (64 * 2) = x / 2 ^ 64 / 2 ^ 64 := by rw [Nat.div_div_eq_div_mul]
  have i3 : x / 2 ^ (64 * 3) = x / 2 ^ 64 / 2 ^ 64 / 2 ^ 64 := by rw [Nat.div_div_eq_div_mul, Nat.div_div_eq_div_mul]
  have i0 : x / 2 ^ (64 * 0) = x := by simp
  have i4 : x / 2 ^ 64 / 2 ^ 64 / 2 ^ 64 % 2 ^ 64 = x / 2 ^ 64 / 2 ^ 64 / 2 ^ 64 := by
    apply Nat.mod_eq_of_lt
    rw [Nat.div_div_eq_div_mul, Nat.div_div_eq_div_mul]
    apply Nat.div_lt_of_lt_mul
    exact hlt
  rw [i0, i1, i2, i3, i4, g0, g1, g2, Nat.add_assoc, Nat.add_assoc]

theorem pc_le (x : Nat) : ∀ n, pc x n ≤ n := by
  intro n
  induction n with
  | zero => exact Nat.le_refl _
  | succ n ih => rw [pc]; split <;> omega

set_option maxRecDepth 100000 in
set_option maxHeartbeats 2000000 in
theorem count_any (s : BS) (w : World) : Calls Tryd.prog 46 #[vset s] w fun e w' => e = .returned (.int .i64 (cnt s)) ∧ Below w.heap.size w w' := by
  have HC := Lib.hid (cnt_words s)
  obtain ⟨N, hN⟩ : ∃ N, N = cnt s := ⟨_, rfl⟩
  rw [← hN] at HC ⊢
  clear hN
  have O0 : Hid (∀ w', Calls Tryd.prog 63 #[.int .u64 (wdI s 0)] w' fun e w'' => e = .returned (.int .i64 (pc (wd s 0).toNat 64)) ∧ w' = w'') := fun w' => onesCount_any _ (wd s 0).isLt w'
  have O1 : Hid (∀ w', Calls Tryd.prog 63 #[.int .u64 (wdI s 1)] w' fun e w'' => e = .returned (.int .i64 (pc (wd s 1).toNat 64)) ∧ w' = w'') := fun w' => onesCount_any _ (wd s 1).isLt w'
  have O2 : Hid (∀ w', Calls Tryd.prog 63 #[.int .u64 (wdI s 2)] w' fun e w'' => e = .returned (.int .i64 (pc (wd s 2).toNat 64)) ∧ w' = w'') := fun w' => onesCount_any _ (wd s 2).isLt w'
  have O3 : Hid (∀ w', Calls Tryd.prog 63 #[.int .u64 (wdI s 3)] w' fun e w'' => e = .returned (.int .i64 (pc (wd s 3).toNat 64)) ∧ w' = w'') := fun w' => onesCount_any _ (wd s 3).isLt w'
  have p0 := pc_le (wd s 0).toNat 64
  have p1 := pc_le (wd s 1).toNat 64
  have p2 := pc_le (wd s 2).toNat 64
  have p3 := pc_le (wd s 3).toNat 64
  generalize pc (wd s 0).toNat 64 = n0 at *
  generalize pc (wd s 1).toNat 64 = n1 at *
  generalize pc (wd s 2).toNat 64 = n2 at *
  generalize pc (wd s 3).toNat 64 = n3 at *
  have i0 := ix0 (wdI s 0) (wdI s 1) (wdI s 2) (wdI s 3)
  have i1 := ix1 (wdI s 0) (wdI s 1) (wdI s 2) (wdI s 3)
  have i2 := ix2 (wdI s 0) (wdI s 1) (wdI s 2) (wdI s 3)
  have i3 := ix3 (wdI s 0) (wdI s 1) (wdI s 2) (wdI s 3)
  unfold vset
  go_enter Tryd.func46, Tryd.ntmps46
  go_wp2
  go_loopw [3, 7] (fun a i wr => ∃ (k m : Nat), i = .int .i64 k ∧ a = .int .i64 m ∧ wr = w.alloc (.cells #[.int .u64 (wdI s 0), .int .u64 (wdI s 1), .int .u64 (wdI s 2), .int .u64 (wdI s 3)] 36) ∧ (k = 0 ∧ m = 0 ∨ k = 1 ∧ m = n0 ∨ k = 2 ∧ m = n0 + n1 ∨ k = 3 ∧ m = n0 + n1 + n2 ∨ k = 4 ∧ m = N))
    (fun _ i _ => 4 - (intOf i).toNat)
  case atStart => exact ⟨0, 0, rfl, rfl, rfl, .inl ⟨rfl, rfl⟩⟩
  case round =>
    obtain ⟨k, m, rfl, rfl, rfl, hk⟩ := hrel
    have hm : m ≤ 256 := by have := HC.out; omega
    rcases hk with ⟨rfl, hm2⟩ | ⟨rfl, hm2⟩ | ⟨rfl, hm2⟩ | ⟨rfl, hm2⟩ | ⟨rfl, rfl⟩
    · have HM := Lib.hid hm2
      clear hm2
      go_wp2_with (go_at_call 63; refine (O0.out _).mono ?_; rintro e w' ⟨rfl, rfl⟩)
      go_roundw
      case rel => exact ⟨1, m + n0, by go_num, by go_num, by first | rfl | trivial, .inr (.inl ⟨rfl, by rw [HM.out, Nat.zero_add]⟩)⟩
      case measure => simp [intOf]
    · have HM := Lib.hid hm2
      clear hm2
      go_wp2_with (go_at_call 63; refine (O1.out _).mono ?_; rintro e w' ⟨rfl, rfl⟩)
      go_roundw
      case rel => exact ⟨2, m + n1, by go_num, by go_num, by first | rfl | trivial, .inr (.inr (.inl ⟨rfl, by rw [HM.out]⟩))⟩
      case measure => simp [intOf]
    · have HM := Lib.hid hm2
      clear hm2
      go_wp2_with (go_at_call 63; refine (O2.out _).mono ?_; rintro e w' ⟨rfl, rfl⟩)
      go_roundw
      case rel => exact ⟨3, m + n2, by go_num, by go_num, by first | rfl | trivial, .inr (.inr (.inr (.inl ⟨rfl, by rw [HM.out]⟩)))⟩
      case measure => simp [intOf]
    · have HM := Lib.hid hm2
      clear hm2
      go_wp2_with (go_at_call 63; refine (O3.out _).mono ?_; rintro e w' ⟨rfl, rfl⟩)
      go_roundw
      case rel => exact ⟨4, m + n3, by go_num, by go_num, by first | rfl | trivial, .inr (.inr (.inr (.inr ⟨rfl, by rw [HM.out, HC.out]⟩)))⟩
      case measure => simp [intOf]
    · go_wp2
      go_ret
      exact ⟨rfl, (Below.refl _ w).alloc (Nat.le_refl _) _⟩

end Go.Proofs.YtdodkbpagbblmaaDoor
