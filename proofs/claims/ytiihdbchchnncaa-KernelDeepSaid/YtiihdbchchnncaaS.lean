import Derived.WalkKit
namespace Go.Proofs.Ytiihdbchchnncaa
open Go Go.RowKit

/-- A set of bytes. -/
abbrev BS := BitVec 256

/-- A word of a set. -/
def wd (s : BS) (i : Nat) : BitVec 64 := s.extractLsb' (64 * i) 64
def wdI (s : BS) (i : Nat) : Int := ((wd s i).toNat : Int)
def cset (s : BS) : Array Value := #[.int .u64 (wdI s 0), .int .u64 (wdI s 1), .int .u64 (wdI s 2), .int .u64 (wdI s 3)]
def vset (s : BS) : Value := .agg #[.int .u64 (wdI s 0), .int .u64 (wdI s 1), .int .u64 (wdI s 2), .int .u64 (wdI s 3)]

theorem wd_bit (s : BS) (i j : Nat) : (wd s i).getLsbD j = (decide (j < 64) && s.getLsbD (64 * i + j)) := by
  simp [wd, BitVec.getLsbD_extractLsb']

theorem ofInt_nat (x : BitVec 64) : BitVec.ofInt 64 (x.toNat : Int) = x := by
  rw [BitVec.ofInt_natCast]; simp

theorem wrap_bv (x : BitVec 64) : IntKind.u64.wrap (x.toNat : Int) = (x.toNat : Int) := by
  have := x.isLt
  rw [IntKind.wrap_u64]; omega

theorem bits_or_bv (x y : BitVec 64) : bits .or .u64 (x.toNat : Int) (y.toNat : Int) = ((x ||| y).toNat : Int) := by
  show IntKind.u64.wrap ((BitVec.ofInt 64 (x.toNat : Int) ||| BitVec.ofInt 64 (y.toNat : Int)).toNat : Int) = _
  rw [ofInt_nat, ofInt_nat, wrap_bv]
theorem bits_and_bv (x y : BitVec 64) : bits .and .u64 (x.toNat : Int) (y.toNat : Int) = ((x &&& y).toNat : Int) := by
  show IntKind.u64.wrap ((BitVec.ofInt 64 (x.toNat : Int) &&& BitVec.ofInt 64 (y.toNat : Int)).toNat : Int) = _
  rw [ofInt_nat, ofInt_nat, wrap_bv]
theorem bits_xor_bv (x y : BitVec 64) : bits .xor .u64 (x.toNat : Int) (y.toNat : Int) = ((x ^^^ y).toNat : Int) := by
  show IntKind.u64.wrap ((BitVec.ofInt 64 (x.toNat : Int) ^^^ BitVec.ofInt 64 (y.toNat : Int)).toNat : Int) = _
  rw [ofInt_nat, ofInt_nat, wrap_bv]
theorem bits_andNot_bv (x y : BitVec 64) : bits .andNot .u64 (x.toNat : Int) (y.toNat : Int) = ((x &&& ~~~y).toNat : Int) := by
  show IntKind.u64.wrap ((BitVec.ofInt 64 (x.toNat : Int) &&& ~~~BitVec.ofInt 64 (y.toNat : Int)).toNat : Int) = _
  rw [ofInt_nat, ofInt_nat, wrap_bv]

theorem wd_or (s t : BS) (i : Nat) : wd (s ||| t) i = wd s i ||| wd t i := by
  apply BitVec.eq_of_getLsbD_eq; intro j hj
  rw [BitVec.getLsbD_or, wd_bit, wd_bit, wd_bit, BitVec.getLsbD_or]
  simp [hj]
theorem wd_and (s t : BS) (i : Nat) : wd (s &&& t) i = wd s i &&& wd t i := by
  apply BitVec.eq_of_getLsbD_eq; intro j hj
  rw [BitVec.getLsbD_and, wd_bit, wd_bit, wd_bit, BitVec.getLsbD_and]
  simp [hj]
theorem wd_not (s : BS) (i : Nat) (h : i < 4) : wd (~~~s) i = ~~~(wd s i) := by
  apply BitVec.eq_of_getLsbD_eq; intro j hj
  have : 64 * i + j < 256 := by omega
  rw [BitVec.getLsbD_not, wd_bit, wd_bit, BitVec.getLsbD_not]
  simp [hj, this]

theorem wdI_or (s t : BS) (i : Nat) : bits .or .u64 (wdI s i) (wdI t i) = wdI (s ||| t) i := by
  unfold wdI; rw [bits_or_bv, wd_or]
theorem wdI_and (s t : BS) (i : Nat) : bits .and .u64 (wdI s i) (wdI t i) = wdI (s &&& t) i := by
  unfold wdI; rw [bits_and_bv, wd_and]
theorem wdI_andNot (s t : BS) (i : Nat) (h : i < 4) : bits .andNot .u64 (wdI s i) (wdI t i) = wdI (s &&& ~~~t) i := by
  unfold wdI; rw [bits_andNot_bv, wd_and, wd_not _ _ h]
theorem wdI_not (s : BS) (i : Nat) (h : i < 4) : bits .xor .u64 (wdI s i) 18446744073709551615 = wdI (~~~s) i := by
  have e : (18446744073709551615 : Int) = ((BitVec.allOnes 64).toNat : Int) := by decide
  unfold wdI; rw [e, bits_xor_bv, wd_not _ _ h, BitVec.xor_allOnes]

theorem wdI_lo (s : BS) (i : Nat) : 0 ≤ wdI s i := by unfold wdI; omega
theorem wdI_hi (s : BS) (i : Nat) : wdI s i < 18446744073709551616 := by have := (wd s i).isLt; unfold wdI; omega

theorem set_ext {s t : BS} (h : ∀ i, i < 4 → wd s i = wd t i) : s = t := by
  apply BitVec.eq_of_getLsbD_eq; intro j hj
  have := congrArg (fun x => BitVec.getLsbD x (j % 64)) (h (j / 64) (by omega))
  simp only [wd_bit] at this
  have e : 64 * (j / 64) + j % 64 = j := by omega
  have e2 : j % 64 < 64 := by omega
  simpa [e, e2] using this

theorem wdI_inj {s t : BS} (h0 : wdI s 0 = wdI t 0) (h1 : wdI s 1 = wdI t 1) (h2 : wdI s 2 = wdI t 2) (h3 : wdI s 3 = wdI t 3) : s = t := by
  apply set_ext
  intro i hi
  apply BitVec.eq_of_toNat_eq
  have h : i = 0 ∨ i = 1 ∨ i = 2 ∨ i = 3 := by omega
  unfold wdI at h0 h1 h2 h3
  rcases h with rfl | rfl | rfl | rfl <;> omega

theorem wd_app (x y z u : BitVec 64) (i : Nat) (hi : i < 4) : wd ((x ++ y) ++ (z ++ u) : BitVec 256) i = if i = 0 then u else if i = 1 then z else if i = 2 then y else x := by
  apply BitVec.eq_of_getLsbD_eq; intro j hj
  rw [wd_bit, BitVec.getLsbD_append, BitVec.getLsbD_append, BitVec.getLsbD_append]
  have h : i = 0 ∨ i = 1 ∨ i = 2 ∨ i = 3 := by omega
  rcases h with rfl | rfl | rfl | rfl
  · have h1 : 64 * 0 + j < 64 + 64 := by omega
    have h2 : 64 * 0 + j < 64 := by omega
    simp only [h1, h2, hj, if_true, decide_true, Bool.true_and]
    simp
  · have h1 : 64 * 1 + j < 64 + 64 := by omega
    have h2 : ¬ 64 * 1 + j < 64 := by omega
    have h3 : 64 * 1 + j - 64 = j := by omega
    simp only [h1, h2, h3, hj, if_true, if_false, decide_true, Bool.true_and]
    simp
  · have h1 : ¬ 64 * 2 + j < 64 + 64 := by omega
    have h2 : 64 * 2 + j - (64 + 64) < 64 := by omega
    have h3 : 64 * 2 + j - (64 + 64) = j := by omega
    simp only [h1, h3, hj, if_true, if_false, decide_true, Bool.true_and]
    simp
  · have h1 : ¬ 64 * 3 + j < 64 + 64 := by omega
    have h2 : ¬ 64 * 3 + j - (64 + 64) < 64 := by omega
    have h3 : 64 * 3 + j - (64 + 64) - 64 = j := by omega
    simp only [h1, h2, h3, hj, if_true, if_false, decide_true, Bool.true_and]
    simp

theorem set_of_words (a b c d : Int) (ha : 0 ≤ a ∧ a < 18446744073709551616) (hb : 0 ≤ b ∧ b < 18446744073709551616) (hc : 0 ≤ c ∧ c < 18446744073709551616) (hd : 0 ≤ d ∧ d < 18446744073709551616) :
    ∃ s : BS, a = wdI s 0 ∧ b = wdI s 1 ∧ c = wdI s 2 ∧ d = wdI s 3 := by
  refine ⟨((BitVec.ofNat 64 d.toNat ++ BitVec.ofNat 64 c.toNat) ++ (BitVec.ofNat 64 b.toNat ++ BitVec.ofNat 64 a.toNat) : BitVec 256), ?_, ?_, ?_, ?_⟩
  all_goals
    unfold wdI
    rw [wd_app _ _ _ _ _ (by omega)]
    simp
    omega

/-- One byte alone. -/
def one (b : Nat) : BS := BitVec.twoPow 256 b

theorem one_bit (b j : Nat) (hb : b < 256) : (one b).getLsbD j = decide (b = j) := by
  unfold one; rw [BitVec.getLsbD_twoPow]; simp [hb]

/-- A set and a byte more. -/
def withB (s : BS) (b : Nat) : BS := s ||| one b

theorem withB_bit (s : BS) (b j : Nat) (hb : b < 256) : (withB s b).getLsbD j = (s.getLsbD j || decide (b = j)) := by
  unfold withB; rw [BitVec.getLsbD_or, one_bit b j hb]

theorem wd_one (b i : Nat) (hb : b < 256) : wd (one b) i = if i = b / 64 then BitVec.twoPow 64 (b % 64) else 0#64 := by
  apply BitVec.eq_of_getLsbD_eq; intro j hj
  rw [wd_bit, one_bit _ _ hb]
  by_cases h : i = b / 64
  · rw [if_pos h, BitVec.getLsbD_twoPow]
    have e : (b = 64 * i + j) ↔ (b % 64 = j) := by omega
    have e2 : b % 64 < 64 := by omega
    simp [hj, e, e2]
  · rw [if_neg h]
    have e : ¬ (b = 64 * i + j) := by omega
    simp [e]

/-- The word in which a byte lies, with it. -/
theorem wd_with (s : BS) (b i : Nat) (hb : b < 256) : wd (withB s b) i = if i = b / 64 then wd s i ||| BitVec.twoPow 64 (b % 64) else wd s i := by
  unfold withB; rw [wd_or, wd_one _ _ hb]
  split <;> simp

end Go.Proofs.Ytiihdbchchnncaa
