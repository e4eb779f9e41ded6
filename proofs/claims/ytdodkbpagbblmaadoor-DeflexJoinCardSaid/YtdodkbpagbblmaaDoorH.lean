import Derived.Test.YtdodkbpagbblmaaDoorS
namespace Go.Proofs.YtdodkbpagbblmaaDoor
open Go Go.RowKit

/-! How many bits a word has, as math/bits reckons it. -/

/-- How many of the first n bits are set. -/
def pc (x : Nat) : Nat → Nat
  | 0 => 0
  | n + 1 => pc x n + (if x.testBit n then 1 else 0)

theorem and_split (k a b : Nat) : a &&& b = (a % 2 ^ k &&& b % 2 ^ k) + 2 ^ k * (a / 2 ^ k &&& b / 2 ^ k) := by
  have h1 : (a &&& b) % 2 ^ k = a % 2 ^ k &&& b % 2 ^ k := Nat.and_mod_two_pow
  have h2 : (a &&& b) / 2 ^ k = a / 2 ^ k &&& b / 2 ^ k := Nat.and_div_two_pow
  rw [← h1, ← h2]
  have := Nat.mod_add_div (a &&& b) (2 ^ k)
  omega

/-- The three steps, byte by byte. -/
def s1 (b : Nat) : Nat := (b / 2 &&& 85) + (b &&& 85)
def s2 (b : Nat) : Nat := (b / 4 &&& 51) + (b &&& 51)
def s3 (b : Nat) : Nat := (b / 16 + b) &&& 15

/-- A mask of n bytes. -/
def mask (m : Nat) : Nat → Nat
  | 0 => 0
  | n + 1 => m + 256 * mask m n

theorem b1 : ∀ b : Fin 256, ∀ c : Fin 2, (b.val / 2 + 128 * c.val) &&& 85 = b.val / 2 &&& 85 := by decide +kernel

theorem step1 (n : Nat) : ∀ x : Nat, (x / 2 &&& mask 85 (n + 1)) + (x &&& mask 85 (n + 1)) = s1 (x % 256) + 256 * ((x / 256 / 2 &&& mask 85 n) + (x / 256 &&& mask 85 n)) := by
  intro x
  have hm : mask 85 (n + 1) % 2 ^ 8 = 85 := by simp [mask]
  have hd : mask 85 (n + 1) / 2 ^ 8 = mask 85 n := by simp [mask]; omega
  rw [and_split 8 (x / 2), and_split 8 x, hm, hd]
  have e1 : x / 2 % 2 ^ 8 = x % 256 / 2 + 128 * (x / 256 % 2) := by omega
  have e2 : x / 2 / 2 ^ 8 = x / 256 / 2 := by omega
  have e3 : x % 2 ^ 8 = x % 256 := rfl
  have e4 : x / 2 ^ 8 = x / 256 := rfl
  rw [e1, e2, e3, e4]
  have hb := b1 ⟨x % 256, by omega⟩ ⟨x / 256 % 2, by omega⟩
  dsimp only at hb
  rw [hb]
  unfold s1
  omega

theorem b2 : ∀ b : Fin 256, ∀ c : Fin 4, (b.val / 4 + 64 * c.val) &&& 51 = b.val / 4 &&& 51 := by decide +kernel
theorem step2 (n : Nat) : ∀ x : Nat, (x / 4 &&& mask 51 (n + 1)) + (x &&& mask 51 (n + 1)) = s2 (x % 256) + 256 * ((x / 256 / 4 &&& mask 51 n) + (x / 256 &&& mask 51 n)) := by
  intro x
  have hm : mask 51 (n + 1) % 2 ^ 8 = 51 := by simp [mask]
  have hd : mask 51 (n + 1) / 2 ^ 8 = mask 51 n := by simp [mask]; omega
  rw [and_split 8 (x / 4), and_split 8 x, hm, hd]
  have e1 : x / 4 % 2 ^ 8 = x % 256 / 4 + 64 * (x / 256 % 4) := by omega
  have e2 : x / 4 / 2 ^ 8 = x / 256 / 4 := by omega
  have e3 : x % 2 ^ 8 = x % 256 := rfl
  have e4 : x / 2 ^ 8 = x / 256 := rfl
  rw [e1, e2, e3, e4]
  have hb := b2 ⟨x % 256, by omega⟩ ⟨x / 256 % 4, by omega⟩
  dsimp only at hb
  rw [hb]
  unfold s2
  omega

theorem and15 (x : Nat) : x &&& 15 = x % 16 := Nat.and_two_pow_sub_one_eq_mod x 4
theorem mask15 (n : Nat) : ∀ x : Nat, x &&& mask 15 (n + 1) = x % 16 + 256 * (x / 256 &&& mask 15 n) := by
  intro x
  have hm : mask 15 (n + 1) % 2 ^ 8 = 15 := by simp [mask]
  have hd : mask 15 (n + 1) / 2 ^ 8 = mask 15 n := by simp [mask]; omega
  rw [and_split 8 x, hm, hd, and15]
  have e3 : x % 2 ^ 8 % 16 = x % 16 := by omega
  rw [e3]

theorem s1_le : ∀ b : Fin 256, s1 b.val ≤ 170 := by decide +kernel
theorem s2_le : ∀ b : Fin 256, s2 (s1 b.val) ≤ 68 ∧ s2 (s1 b.val) % 16 ≤ 4 := by decide +kernel
theorem s3_pc : ∀ b : Fin 256, s3 (s2 (s1 b.val)) = pc b.val 8 := by decide +kernel
theorem pc8_le : ∀ b : Fin 256, pc b.val 8 ≤ 8 := by decide +kernel

def byteSum (g : Nat → Nat) : Nat → Nat → Nat
  | 0, _ => 0
  | n + 1, x => g (x % 256) + 256 * byteSum g n (x / 256)

theorem sum1 (n : Nat) : ∀ x, (x / 2 &&& mask 85 n) + (x &&& mask 85 n) = byteSum s1 n x := by
  induction n with
  | zero => intro x; simp [mask, byteSum]
  | succ n ih => intro x; rw [step1, ih, byteSum]

theorem sum2 (n : Nat) : ∀ x, (byteSum s1 n x / 4 &&& mask 51 n) + (byteSum s1 n x &&& mask 51 n) = byteSum (fun b => s2 (s1 b)) n x := by
  induction n with
  | zero => intro x; simp [mask, byteSum]
  | succ n ih =>
    intro x
    have h1 := s1_le ⟨x % 256, by omega⟩
    dsimp only at h1
    rw [step2, byteSum, byteSum]
    have e1 : (s1 (x % 256) + 256 * byteSum s1 n (x / 256)) % 256 = s1 (x % 256) := by omega
    have e2 : (s1 (x % 256) + 256 * byteSum s1 n (x / 256)) / 256 = byteSum s1 n (x / 256) := by omega
    rw [e1, e2, ih]

theorem sum3 (n : Nat) : ∀ x, (byteSum (fun b => s2 (s1 b)) n x / 16 + byteSum (fun b => s2 (s1 b)) n x) &&& mask 15 n = byteSum (fun b => pc b 8) n x := by
  induction n with
  | zero => intro x; simp [mask, byteSum]
  | succ n ih =>
    intro x
    have h1 := s2_le ⟨x % 256, by omega⟩
    have h3 := s3_pc ⟨x % 256, by omega⟩
    dsimp only at h1 h3
    have h2 : byteSum (fun b => s2 (s1 b)) n (x / 256) % 16 ≤ 4 := by
      cases n with
      | zero => simp [byteSum]
      | succ n =>
        have := s2_le ⟨x / 256 % 256, by omega⟩
        dsimp only at this
        rw [byteSum]
        omega
    have ih := ih (x / 256)
    rw [mask15, byteSum, byteSum]
    generalize byteSum (fun b => s2 (s1 b)) n (x / 256) = Z at *
    have e1 : ((s2 (s1 (x % 256)) + 256 * Z) / 16 + (s2 (s1 (x % 256)) + 256 * Z)) % 16 = (s2 (s1 (x % 256)) / 16 + s2 (s1 (x % 256))) % 16 := by omega
    have e2 : ((s2 (s1 (x % 256)) + 256 * Z) / 16 + (s2 (s1 (x % 256)) + 256 * Z)) / 256 = Z / 16 + Z := by omega
    rw [e1, e2, ih, ← h3]
    unfold s3
    rw [and15]

theorem pc_split (x n : Nat) : pc x (8 + n) = pc (x % 256) 8 + pc (x / 256) n := by
  induction n with
  | zero =>
    have h : ∀ i, i < 8 → (x % 256).testBit i = x.testBit i := by
      intro i hi
      have := Nat.testBit_mod_two_pow x 8 i
      rw [show (2 : Nat) ^ 8 = 256 from rfl] at this
      rw [this]; simp [hi]
    simp [pc, h]
  | succ n ih =>
    have h : (x / 256).testBit n = x.testBit (8 + n) := by
      have := (Nat.testBit_div_two_pow x n : (x / 2 ^ 8).testBit n = x.testBit (n + 8))
      rw [show (2 : Nat) ^ 8 = 256 from rfl] at this
      rw [this, Nat.add_comm]
    show pc x (8 + n) + (if x.testBit (8 + n) then 1 else 0) = pc (x % 256) 8 + (pc (x / 256) n + (if (x / 256).testBit n then 1 else 0))
    rw [ih, h]
    omega

theorem byteSum8 (x : Nat) : ∃ a0 a1 a2 a3 a4 a5 a6 a7 : Nat, byteSum (fun b => pc b 8) 8 x = a0 + 256 * (a1 + 256 * (a2 + 256 * (a3 + 256 * (a4 + 256 * (a5 + 256 * (a6 + 256 * a7)))))) ∧
    a0 ≤ 8 ∧ a1 ≤ 8 ∧ a2 ≤ 8 ∧ a3 ≤ 8 ∧ a4 ≤ 8 ∧ a5 ≤ 8 ∧ a6 ≤ 8 ∧ a7 ≤ 8 ∧ pc x 64 = a0 + a1 + a2 + a3 + a4 + a5 + a6 + a7 := by
  have hle : ∀ y, pc (y % 256) 8 ≤ 8 := fun y => pc8_le ⟨y % 256, by omega⟩
  refine ⟨pc (x % 256) 8, pc (x / 256 % 256) 8, pc (x / 256 / 256 % 256) 8, pc (x / 256 / 256 / 256 % 256) 8, pc (x / 256 / 256 / 256 / 256 % 256) 8, pc (x / 256 / 256 / 256 / 256 / 256 % 256) 8, pc (x / 256 / 256 / 256 / 256 / 256 / 256 % 256) 8, pc (x / 256 / 256 / 256 / 256 / 256 / 256 / 256 % 256) 8, by simp only [byteSum, Nat.mul_zero, Nat.add_zero], hle _, hle _, hle _, hle _, hle _, hle _, hle _, hle _, ?_⟩
  have h0 : pc (x) 64 = pc (x % 256) 8 + pc (x / 256) 56 := pc_split (x) 56
  have h1 : pc (x / 256) 56 = pc (x / 256 % 256) 8 + pc (x / 256 / 256) 48 := pc_split (x / 256) 48
  have h2 : pc (x / 256 / 256) 48 = pc (x / 256 / 256 % 256) 8 + pc (x / 256 / 256 / 256) 40 := pc_split (x / 256 / 256) 40
  have h3 : pc (x / 256 / 256 / 256) 40 = pc (x / 256 / 256 / 256 % 256) 8 + pc (x / 256 / 256 / 256 / 256) 32 := pc_split (x / 256 / 256 / 256) 32
  have h4 : pc (x / 256 / 256 / 256 / 256) 32 = pc (x / 256 / 256 / 256 / 256 % 256) 8 + pc (x / 256 / 256 / 256 / 256 / 256) 24 := pc_split (x / 256 / 256 / 256 / 256) 24
  have h5 : pc (x / 256 / 256 / 256 / 256 / 256) 24 = pc (x / 256 / 256 / 256 / 256 / 256 % 256) 8 + pc (x / 256 / 256 / 256 / 256 / 256 / 256) 16 := pc_split (x / 256 / 256 / 256 / 256 / 256) 16
  have h6 : pc (x / 256 / 256 / 256 / 256 / 256 / 256) 16 = pc (x / 256 / 256 / 256 / 256 / 256 / 256 % 256) 8 + pc (x / 256 / 256 / 256 / 256 / 256 / 256 / 256) 8 := pc_split (x / 256 / 256 / 256 / 256 / 256 / 256) 8
  have h7 : pc (x / 256 / 256 / 256 / 256 / 256 / 256 / 256) 8 = pc (x / 256 / 256 / 256 / 256 / 256 / 256 / 256 % 256) 8 + pc (x / 256 / 256 / 256 / 256 / 256 / 256 / 256 / 256) 0 := pc_split (x / 256 / 256 / 256 / 256 / 256 / 256 / 256) 0
  have hz : pc (x / 256 / 256 / 256 / 256 / 256 / 256 / 256 / 256) 0 = 0 := rfl
  rw [h0, h1, h2, h3, h4, h5, h6, h7, hz]
  simp only [Nat.add_assoc, Nat.add_zero]

theorem div_low (L H B : Nat) (h : L < B) : (L + B * H) / B = H := by
  have hB : 0 < B := by omega
  rw [Nat.add_mul_div_left _ _ hB, Nat.div_eq_of_lt h, Nat.zero_add]

theorem last_step (a0 a1 a2 a3 a4 a5 a6 a7 : Nat) (h0 : a0 ≤ 8) (h1 : a1 ≤ 8) (h2 : a2 ≤ 8) (h3 : a3 ≤ 8) (h4 : a4 ≤ 8) (h5 : a5 ≤ 8) (h6 : a6 ≤ 8) (h7 : a7 ≤ 8) (y : Nat)
    (hy : y = a0 + 256 * (a1 + 256 * (a2 + 256 * (a3 + 256 * (a4 + 256 * (a5 + 256 * (a6 + 256 * (a7)))))))) :
    y < 2000000000000000000 ∧ ∃ t1 t2 t3, t1 = y + y / 256 ∧ t2 = t1 + t1 / 65536 ∧ t3 = t2 + t2 / 4294967296 ∧ t1 < 18446744073709551616 ∧ t2 < 18446744073709551616 ∧ t3 < 18446744073709551616 ∧ t3 % 128 = a0 + a1 + a2 + a3 + a4 + a5 + a6 + a7 := by
  have hy2 : y < 2000000000000000000 := by omega
  refine ⟨hy2, _, _, _, rfl, rfl, rfl, ?_⟩
  have e1 : y / 256 = a1 + 256 * (a2 + 256 * (a3 + 256 * (a4 + 256 * (a5 + 256 * (a6 + 256 * (a7)))))) := by rw [hy]; exact div_low _ _ _ (by omega)
  obtain ⟨t1, ht1⟩ : ∃ t1, t1 = y + y / 256 := ⟨_, rfl⟩
  rw [← ht1]
  have f1 : t1 = (a0 + a1) + 256 * ((a1 + a2) + 256 * ((a2 + a3) + 256 * ((a3 + a4) + 256 * ((a4 + a5) + 256 * ((a5 + a6) + 256 * ((a6 + a7) + 256 * (a7))))))) := by rw [ht1, e1, hy]; omega
  have g1 : t1 = (((a0 + a1)) + 256 * ((a1 + a2))) + 65536 * ((a2 + a3) + 256 * ((a3 + a4) + 256 * ((a4 + a5) + 256 * ((a5 + a6) + 256 * ((a6 + a7) + 256 * (a7)))))) := by rw [f1]; omega
  have e2 : t1 / 65536 = (a2 + a3) + 256 * ((a3 + a4) + 256 * ((a4 + a5) + 256 * ((a5 + a6) + 256 * ((a6 + a7) + 256 * (a7))))) := by rw [g1]; exact div_low _ _ _ (by clear e1 ht1 f1 g1 hy hy2; omega)
  obtain ⟨t2, ht2⟩ : ∃ t2, t2 = t1 + t1 / 65536 := ⟨_, rfl⟩
  rw [← ht2]
  have f2 : t2 = (a0 + a1 + a2 + a3) + 256 * ((a1 + a2 + a3 + a4) + 256 * ((a2 + a3 + a4 + a5) + 256 * ((a3 + a4 + a5 + a6) + 256 * ((a4 + a5 + a6 + a7) + 256 * ((a5 + a6 + a7) + 256 * ((a6 + a7) + 256 * ((a7)))))))) := by rw [ht2, e2, f1]; omega
  have g2 : t2 = ((a0 + a1 + a2 + a3) + 256 * ((a1 + a2 + a3 + a4) + 256 * ((a2 + a3 + a4 + a5) + 256 * ((a3 + a4 + a5 + a6))))) + 4294967296 * ((a4 + a5 + a6 + a7) + 256 * ((a5 + a6 + a7) + 256 * ((a6 + a7) + 256 * ((a7))))) := by rw [f2]; omega
  have e3 : t2 / 4294967296 = (a4 + a5 + a6 + a7) + 256 * ((a5 + a6 + a7) + 256 * ((a6 + a7) + 256 * ((a7)))) := by rw [g2]; exact div_low _ _ _ (by clear e1 ht1 f1 g1 e2 ht2 f2 g2 hy hy2; omega)
  have b1 : t1 < 18446744073709551616 := by clear f2 g2 e3 ht2 g1 e2; omega
  have b2 : t2 < 18446744073709551616 := by clear g2 e3 ht2 g1 e2 f1 ht1 e1 hy; omega
  obtain ⟨t3, ht3⟩ : ∃ t3, t3 = t2 + t2 / 4294967296 := ⟨_, rfl⟩
  rw [← ht3]
  clear g2 ht2 g1 e2 f1 ht1 e1 hy
  have f3 : t3 = (a0 + a1 + a2 + a3 + a4 + a5 + a6 + a7) + 256 * ((a1 + a2 + a3 + a4 + a5 + a6 + a7) + 256 * ((a2 + a3 + a4 + a5 + a6 + a7) + 256 * ((a3 + a4 + a5 + a6 + a7) + 256 * ((a4 + a5 + a6 + a7) + 256 * ((a5 + a6 + a7) + 256 * ((a6 + a7) + 256 * ((a7)))))))) := by rw [ht3, e3, f2]; omega
  clear f2 e3 ht3
  refine ⟨b1, b2, by omega, by omega⟩

end Go.Proofs.YtdodkbpagbblmaaDoor
