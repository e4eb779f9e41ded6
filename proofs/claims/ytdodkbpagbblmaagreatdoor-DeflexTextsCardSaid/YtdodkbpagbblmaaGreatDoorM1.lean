import Derived.WalkKit
import Derived.Test.YtdodkbpagbblmaaGreatDoorProg
import Derived.RangeFuncNested
import Derived.RangeFuncBound
import Derived.RangeFuncCalls
import Derived.RangeFuncLeaves
import Derived.Deep.RegionWith
import Derived.Deep.RegionHeld3
import Derived.WalkSpells
import Derived.WalkLawsBesides
import Derived.Lib.Hide
section
namespace Go.Proofs.YtdodkbpagbblmaaGreatDoor
open Go Go.RowKit

/-- A set of bytes. -/
abbrev BS := BitVec 256

/-- A word of a set. -/
def wd (s : BS) (i : Nat) : BitVec 64 := s.extractLsb' (64 * i) 64
def wdI (s : BS) (i : Nat) : Int := ((wd s i).toNat : Int)
def cset (s : BS) : Array Value := #[.int .u64 (wdI s 0), .int .u64 (wdI s 1), .int .u64 (wdI s 2), .int .u64 (wdI s 3)]
def vset (s : BS) : Value := .agg #[.int .u64 (wdI s 0), .int .u64 (wdI s 1), .int .u64 (wdI s 2), .int .u64 (wdI s 3)]

theorem wd_bit (s : BS) (i j : Nat) : (wd s i).getLsbD j = (decide (j < 64) && s.getLsbD (64 * i + j)) := by
  simp [wd, BitVec.getLsbD_extractLsb']

theorem ofInt_nat (x : BitVec 64) : BitVec.ofInt 64 (x.toNat : Int) = x := by
  rw [BitVec.ofInt_natCast]; simp

theorem wrap_bv (x : BitVec 64) : IntKind.u64.wrap (x.toNat : Int) = (x.toNat : Int) := by
  have := x.isLt
  rw [IntKind.wrap_u64]; omega

theorem bits_or_bv (x y : BitVec 64) : bits .or .u64 (x.toNat : Int) (y.toNat : Int) = ((x ||| y).toNat : Int) := by
  show IntKind.u64.wrap ((BitVec.ofInt 64 (x.toNat : Int) ||| BitVec.ofInt 64 (y.toNat : Int)).toNat : Int) = _
  rw [ofInt_nat, ofInt_nat, wrap_bv]
theorem bits_and_bv (x y : BitVec 64) : bits .and .u64 (x.toNat : Int) (y.toNat : Int) = ((x &&& y).toNat : Int) := by
  show IntKind.u64.wrap ((BitVec.ofInt 64 (x.toNat : Int) &&& BitVec.ofInt 64 (y.toNat : Int)).toNat : Int) = _
  rw [ofInt_nat, ofInt_nat, wrap_bv]
theorem bits_xor_bv (x y : BitVec 64) : bits .xor .u64 (x.toNat : Int) (y.toNat : Int) = ((x ^^^ y).toNat : Int) := by
  show IntKind.u64.wrap ((BitVec.ofInt 64 (x.toNat : Int) ^^^ BitVec.ofInt 64 (y.toNat : Int)).toNat : Int) = _
  rw [ofInt_nat, ofInt_nat, wrap_bv]
theorem bits_andNot_bv (x y : BitVec 64) : bits .andNot .u64 (x.toNat : Int) (y.toNat : Int) = ((x &&& ~~~y).toNat : Int) := by
  show IntKind.u64.wrap ((BitVec.ofInt 64 (x.toNat : Int) &&& ~~~BitVec.ofInt 64 (y.toNat : Int)).toNat : Int) = _
  rw [ofInt_nat, ofInt_nat, wrap_bv]

theorem wd_or (s t : BS) (i : Nat) : wd (s ||| t) i = wd s i ||| wd t i := by
  apply BitVec.eq_of_getLsbD_eq; intro j hj
  rw [BitVec.getLsbD_or, wd_bit, wd_bit, wd_bit, BitVec.getLsbD_or]
  simp [hj]
theorem wd_and (s t : BS) (i : Nat) : wd (s &&& t) i = wd s i &&& wd t i := by
  apply BitVec.eq_of_getLsbD_eq; intro j hj
  rw [BitVec.getLsbD_and, wd_bit, wd_bit, wd_bit, BitVec.getLsbD_and]
  simp [hj]
theorem wd_not (s : BS) (i : Nat) (h : i < 4) : wd (~~~s) i = ~~~(wd s i) := by
  apply BitVec.eq_of_getLsbD_eq; intro j hj
  have : 64 * i + j < 256 := by omega
  rw [BitVec.getLsbD_not, wd_bit, wd_bit, BitVec.getLsbD_not]
  simp [hj, this]

theorem wdI_or (s t : BS) (i : Nat) : bits .or .u64 (wdI s i) (wdI t i) = wdI (s ||| t) i := by
  unfold wdI; rw [bits_or_bv, wd_or]
theorem wdI_and (s t : BS) (i : Nat) : bits .and .u64 (wdI s i) (wdI t i) = wdI (s &&& t) i := by
  unfold wdI; rw [bits_and_bv, wd_and]
theorem wdI_andNot (s t : BS) (i : Nat) (h : i < 4) : bits .andNot .u64 (wdI s i) (wdI t i) = wdI (s &&& ~~~t) i := by
  unfold wdI; rw [bits_andNot_bv, wd_and, wd_not _ _ h]
theorem wdI_not (s : BS) (i : Nat) (h : i < 4) : bits .xor .u64 (wdI s i) 18446744073709551615 = wdI (~~~s) i := by
  have e : (18446744073709551615 : Int) = ((BitVec.allOnes 64).toNat : Int) := by decide
  unfold wdI; rw [e, bits_xor_bv, wd_not _ _ h, BitVec.xor_allOnes]

theorem wdI_lo (s : BS) (i : Nat) : 0 ≤ wdI s i := by unfold wdI; omega
theorem wdI_hi (s : BS) (i : Nat) : wdI s i < 18446744073709551616 := by have := (wd s i).isLt; unfold wdI; omega

theorem set_ext {s t : BS} (h : ∀ i, i < 4 → wd s i = wd t i) : s = t := by
  apply BitVec.eq_of_getLsbD_eq; intro j hj
  have := congrArg (fun x => BitVec.getLsbD x (j % 64)) (h (j / 64) (by omega))
  simp only [wd_bit] at this
  have e : 64 * (j / 64) + j % 64 = j := by omega
  have e2 : j % 64 < 64 := by omega
  simpa [e, e2] using this

theorem wdI_inj {s t : BS} (h0 : wdI s 0 = wdI t 0) (h1 : wdI s 1 = wdI t 1) (h2 : wdI s 2 = wdI t 2) (h3 : wdI s 3 = wdI t 3) : s = t := by
  apply set_ext
  intro i hi
  apply BitVec.eq_of_toNat_eq
  have h : i = 0 ∨ i = 1 ∨ i = 2 ∨ i = 3 := by omega
  unfold wdI at h0 h1 h2 h3
  rcases h with rfl | rfl | rfl | rfl <;> omega

theorem wd_app (x y z u : BitVec 64) (i : Nat) (hi : i < 4) : wd ((x ++ y) ++ (z ++ u) : BitVec 256) i = if i = 0 then u else if i = 1 then z else if i = 2 then y else x := by
  apply BitVec.eq_of_getLsbD_eq; intro j hj
  rw [wd_bit, BitVec.getLsbD_append, BitVec.getLsbD_append, BitVec.getLsbD_append]
  have h : i = 0 ∨ i = 1 ∨ i = 2 ∨ i = 3 := by omega
  rcases h with rfl | rfl | rfl | rfl
  · have h1 : 64 * 0 + j < 64 + 64 := by omega
    have h2 : 64 * 0 + j < 64 := by omega
    simp only [h1, h2, hj, if_true, decide_true, Bool.true_and]
    simp
  · have h1 : 64 * 1 + j < 64 + 64 := by omega
    have h2 : ¬ 64 * 1 + j < 64 := by omega
    have h3 : 64 * 1 + j - 64 = j := by omega
    simp only [h1, h2, h3, hj, if_true, if_false, decide_true, Bool.true_and]
    simp
  · have h1 : ¬ 64 * 2 + j < 64 + 64 := by omega
    have h2 : 64 * 2 + j - (64 + 64) < 64 := by omega
    have h3 : 64 * 2 + j - (64 + 64) = j := by omega
    simp only [h1, h3, hj, if_true, if_false, decide_true, Bool.true_and]
    simp
  · have h1 : ¬ 64 * 3 + j < 64 + 64 := by omega
    have h2 : ¬ 64 * 3 + j - (64 + 64) < 64 := by omega
    have h3 : 64 * 3 + j - (64 + 64) - 64 = j := by omega
    simp only [h1, h2, h3, hj, if_true, if_false, decide_true, Bool.true_and]
    simp

theorem set_of_words (a b c d : Int) (ha : 0 ≤ a ∧ a < 18446744073709551616) (hb : 0 ≤ b ∧ b < 18446744073709551616) (hc : 0 ≤ c ∧ c < 18446744073709551616) (hd : 0 ≤ d ∧ d < 18446744073709551616) :
    ∃ s : BS, a = wdI s 0 ∧ b = wdI s 1 ∧ c = wdI s 2 ∧ d = wdI s 3 := by
  refine ⟨((BitVec.ofNat 64 d.toNat ++ BitVec.ofNat 64 c.toNat) ++ (BitVec.ofNat 64 b.toNat ++ BitVec.ofNat 64 a.toNat) : BitVec 256), ?_, ?_, ?_, ?_⟩
  all_goals
    unfold wdI
    rw [wd_app _ _ _ _ _ (by omega)]
    simp
    omega

/-- One byte alone. -/
def one (b : Nat) : BS := BitVec.twoPow 256 b

theorem one_bit (b j : Nat) (hb : b < 256) : (one b).getLsbD j = decide (b = j) := by
  unfold one; rw [BitVec.getLsbD_twoPow]; simp [hb]

/-- A set and a byte more. -/
def withB (s : BS) (b : Nat) : BS := s ||| one b

theorem withB_bit (s : BS) (b j : Nat) (hb : b < 256) : (withB s b).getLsbD j = (s.getLsbD j || decide (b = j)) := by
  unfold withB; rw [BitVec.getLsbD_or, one_bit b j hb]

theorem wd_one (b i : Nat) (hb : b < 256) : wd (one b) i = if i = b / 64 then BitVec.twoPow 64 (b % 64) else 0#64 := by
  apply BitVec.eq_of_getLsbD_eq; intro j hj
  rw [wd_bit, one_bit _ _ hb]
  by_cases h : i = b / 64
  · rw [if_pos h, BitVec.getLsbD_twoPow]
    have e : (b = 64 * i + j) ↔ (b % 64 = j) := by omega
    have e2 : b % 64 < 64 := by omega
    simp [hj, e, e2]
  · rw [if_neg h]
    have e : ¬ (b = 64 * i + j) := by omega
    simp [e]

/-- The word in which a byte lies, with it. -/
theorem wd_with (s : BS) (b i : Nat) (hb : b < 256) : wd (withB s b) i = if i = b / 64 then wd s i ||| BitVec.twoPow 64 (b % 64) else wd s i := by
  unfold withB; rw [wd_or, wd_one _ _ hb]
  split <;> simp

end Go.Proofs.YtdodkbpagbblmaaGreatDoor
end
section
namespace Go.Proofs.YtdodkbpagbblmaaGreatDoor
open Go Go.RowKit

theorem cells_at (s : BS) (i : Nat) (h : i < 4) : [Value.int IntKind.u64 (wdI s 0), Value.int IntKind.u64 (wdI s 1), Value.int IntKind.u64 (wdI s 2), Value.int IntKind.u64 (wdI s 3)][i]? = some (.int .u64 (wdI s i)) := by
  have h : i = 0 ∨ i = 1 ∨ i = 2 ∨ i = 3 := by omega
  rcases h with rfl | rfl | rfl | rfl <;> rfl

theorem two_pow_bv (j : Nat) (hj : j < 64) : IntKind.u64.wrap (2 ^ j) = ((BitVec.twoPow 64 j).toNat : Int) := by
  rw [BitVec.toNat_twoPow]
  have h : 2 ^ j < 2 ^ 64 := Nat.pow_lt_pow_right (by omega) hj
  rw [Nat.mod_eq_of_lt h, IntKind.wrap_u64]
  have e : (2 : Int) ^ j = ((2 ^ j : Nat) : Int) := by simp
  rw [e]
  generalize (2 ^ j : Nat) = X at h
  omega

/-- The word in which a byte lies, with it, as the program reckons it; the others stay. -/
theorem wdI_with (s : BS) (b i : Nat) (hb : b < 256) (h : b / 64 = i) : bits .or .u64 (wdI s i) (IntKind.u64.wrap (2 ^ (b % 64))) = wdI (withB s b) i := by
  rw [two_pow_bv _ (by omega)]; unfold wdI
  rw [bits_or_bv, wd_with s b i hb, if_pos h.symm]
theorem wdI_with_other (s : BS) (b i : Nat) (hb : b < 256) (h : b / 64 ≠ i) : wdI (withB s b) i = wdI s i := by
  unfold wdI
  rw [wd_with s b i hb, if_neg (fun e => h e.symm)]

theorem bit_I (s : BS) (b : Nat) (_hb : b < 256) : (bits .and .u64 (wdI s (b / 64) / 2 ^ (b % 64)) 1 == 1) = s.getLsbD b := by
  have e : wdI s (b / 64) / 2 ^ (b % 64) = ((wd s (b / 64)).toNat / 2 ^ (b % 64) : Nat) := by
    unfold wdI; simp
  have hlt := (wd s (b / 64)).isLt
  have hl2 : (wd s (b / 64)).toNat / 2 ^ (b % 64) < 18446744073709551616 := Nat.lt_of_le_of_lt (Nat.div_le_self _ _) hlt
  have h3 := wd_bit s (b / 64) (b % 64)
  have e4 : 64 * (b / 64) + b % 64 = b := by omega
  have e5 : b % 64 < 64 := by omega
  rw [e4] at h3
  simp only [e5, decide_true, Bool.true_and] at h3
  rw [← h3, BitVec.getLsbD, Nat.testBit_eq_decide_div_mod_eq, e]
  have e1 : (1 : Int) = ((1 : Nat) : Int) := rfl
  rw [e1, bits_and_u64_nat _ 1 hl2 (by omega), Nat.and_one_is_mod]
  generalize (wd s (b / 64)).toNat / 2 ^ (b % 64) = X
  have : X % 2 = 0 ∨ X % 2 = 1 := by omega
  rcases this with h | h <;> rw [h] <;> rfl

set_option maxHeartbeats 1000000 in
theorem with_any (s : BS) (b : Nat) (hb : b < 256) (w : World) : Calls Tryz.prog 103 #[vset s, .int .u8 b] w fun e w' => e = .returned (vset (withB s b)) ∧ Below w.heap.size w w' := by
  have h : b / 64 = 0 ∨ b / 64 = 1 ∨ b / 64 = 2 ∨ b / 64 = 3 := by omega
  rcases h with h | h | h | h
  · have hk := wdI_with s b 0 hb h
    have h1 := wdI_with_other s b 1 hb (by omega)
    have h2 := wdI_with_other s b 2 hb (by omega)
    have h3 := wdI_with_other s b 3 hb (by omega)
    unfold vset
    rw [h1, h2, h3]
    go_enter Tryz.func103, Tryz.ntmps103
    go_wp2
    refine bodyPost_ret (v := .agg #[.int .u64 (wdI (withB s b) 0), .int .u64 (wdI s 1), .int .u64 (wdI s 2), .int .u64 (wdI s 3)]) (by simp [results, Tryz.results103, go_sem]) rfl ⟨rfl, ?_⟩
    exact ((Below.refl _ _).alloc (Nat.le_refl _) _).alloc (by simp) _
  · have hk := wdI_with s b 1 hb h
    have h0 := wdI_with_other s b 0 hb (by omega)
    have h2 := wdI_with_other s b 2 hb (by omega)
    have h3 := wdI_with_other s b 3 hb (by omega)
    unfold vset
    rw [h0, h2, h3]
    go_enter Tryz.func103, Tryz.ntmps103
    go_wp2
    refine bodyPost_ret (v := .agg #[.int .u64 (wdI s 0), .int .u64 (wdI (withB s b) 1), .int .u64 (wdI s 2), .int .u64 (wdI s 3)]) (by simp [results, Tryz.results103, go_sem]) rfl ⟨rfl, ?_⟩
    exact ((Below.refl _ _).alloc (Nat.le_refl _) _).alloc (by simp) _
  · have hk := wdI_with s b 2 hb h
    have h0 := wdI_with_other s b 0 hb (by omega)
    have h1 := wdI_with_other s b 1 hb (by omega)
    have h3 := wdI_with_other s b 3 hb (by omega)
    unfold vset
    rw [h0, h1, h3]
    go_enter Tryz.func103, Tryz.ntmps103
    go_wp2
    refine bodyPost_ret (v := .agg #[.int .u64 (wdI s 0), .int .u64 (wdI s 1), .int .u64 (wdI (withB s b) 2), .int .u64 (wdI s 3)]) (by simp [results, Tryz.results103, go_sem]) rfl ⟨rfl, ?_⟩
    exact ((Below.refl _ _).alloc (Nat.le_refl _) _).alloc (by simp) _
  · have hk := wdI_with s b 3 hb h
    have h0 := wdI_with_other s b 0 hb (by omega)
    have h1 := wdI_with_other s b 1 hb (by omega)
    have h2 := wdI_with_other s b 2 hb (by omega)
    unfold vset
    rw [h0, h1, h2]
    go_enter Tryz.func103, Tryz.ntmps103
    go_wp2
    refine bodyPost_ret (v := .agg #[.int .u64 (wdI s 0), .int .u64 (wdI s 1), .int .u64 (wdI s 2), .int .u64 (wdI (withB s b) 3)]) (by simp [results, Tryz.results103, go_sem]) rfl ⟨rfl, ?_⟩
    exact ((Below.refl _ _).alloc (Nat.le_refl _) _).alloc (by simp) _
end Go.Proofs.YtdodkbpagbblmaaGreatDoor
end
section
namespace Go.Proofs.YtdodkbpagbblmaaGreatDoor
open Go Go.RowKit

/-- A block of cells known whole, none frozen. -/
def Blk (W : World) (B : Nat) (t : TypeId) (cs : Array Value) : Prop := W.heap[B]? = some (.cells cs t (0, 0))

theorem Blk.lt {W : World} {B t : Nat} {cs : Array Value} (h : Blk W B t cs) : B < W.heap.size := (Array.getElem?_eq_some_iff.1 h).1
theorem Blk.cell {W : World} {B t : Nat} {cs : Array Value} (h : Blk W B t cs) (i : Nat) : W.cell? ⟨B, i, none⟩ = cs[i]? := by
  unfold World.cell?
  simp only [show W.heap[B]? = _ from h]
  rfl
theorem Blk.frozen {W : World} {B t : Nat} {cs : Array Value} (h : Blk W B t cs) (i : Nat) : W.frozen? ⟨B, i, none⟩ = false := by
  unfold World.frozen?
  simp only [show W.heap[B]? = _ from h]
  simp
theorem Blk.new (W : World) (t : TypeId) (cs : Array Value) : Blk (W.alloc (.cells cs t)) W.heap.size t cs := World.alloc_heap_new W _
theorem Blk.kept {W W' : World} {row : Option Nat} {B t : Nat} {cs : Array Value} (h : Blk W B t cs) (hg : W.grownBy W' row) (hne : some B ≠ row) : Blk W' B t cs := (hg.block B h.lt hne).trans h
theorem Blk.alloc {W : World} {B t : Nat} {cs : Array Value} (h : Blk W B t cs) (o : Obj) : Blk (W.alloc o) B t cs := h.kept (World.grownBy_alloc W o none) (by simp)
theorem Blk.drew {W : World} {B t : Nat} {cs : Array Value} (h : Blk W B t cs) : Blk W.drew B t cs := h
theorem Blk.below {W W' : World} {n B t : Nat} {cs : Array Value} (h : Blk W B t cs) (hb : Below n W W') (hn : B < n) : Blk W' B t cs := (hb.block B hn).trans h
theorem Blk.other {W : World} {B t : Nat} {cs : Array Value} (h : Blk W B t cs) {a : Addr} (hne : B ≠ a.block) (u : Value) : Blk (W.setCell a u) B t cs := (Below.heap_setCell W a u B hne).trans h
theorem Blk.set {W : World} {B t : Nat} {cs : Array Value} (h : Blk W B t cs) (i : Nat) (u : Value) : Blk (W.setCell ⟨B, i, none⟩ u) B t (cs.setIfInBounds i u) := by
  obtain ⟨hlt, hk⟩ := Array.getElem?_eq_some_iff.1 h
  show (W.heap.modify B _)[B]? = _
  rw [Array.getElem?_eq_getElem (by rw [Array.size_modify]; exact hlt), Array.getElem_modify_self, hk]
  rfl

theorem Blk.set4 {W : World} {B t : Nat} {a b c d : Value} (h : Blk W B t #[a, b, c, d]) (a' b' c' d' : Value) :
    Blk ((((W.setCell ⟨B, 0, none⟩ a').setCell ⟨B, 1, none⟩ b').setCell ⟨B, 2, none⟩ c').setCell ⟨B, 3, none⟩ d') B t #[a', b', c', d'] := by
  simpa using (((h.set 0 a').set 1 b').set 2 c').set 3 d'
theorem below_set4 {n B : Nat} {w W : World} (h : Below n w W) (hn : n ≤ B) (a' b' c' d' : Value) :
    Below n w ((((W.setCell ⟨B, 0, none⟩ a').setCell ⟨B, 1, none⟩ b').setCell ⟨B, 2, none⟩ c').setCell ⟨B, 3, none⟩ d') :=
  (((h.setCell (p := ⟨B, 0, none⟩) hn _).setCell (p := ⟨B, 1, none⟩) hn _).setCell (p := ⟨B, 2, none⟩) hn _).setCell (p := ⟨B, 3, none⟩) hn _

theorem below_drew_trans {w W w' : World} (h : Below w.heap.size w W) (hB : Below W.drew.heap.size W.drew w') : Below w.heap.size w w' :=
  h.drew.trans (Below.mono hB h.size)

theorem ix0 (a b c d : Int) (w : World) : (Instr.index 33 (.agg #[.int .u64 a, .int .u64 b, .int .u64 c, .int .u64 d]) (.int .i64 0)).run Tryz.prog w = .ok (.int .u64 a) w := by kernel_rfl
theorem ix1 (a b c d : Int) (w : World) : (Instr.index 33 (.agg #[.int .u64 a, .int .u64 b, .int .u64 c, .int .u64 d]) (.int .i64 1)).run Tryz.prog w = .ok (.int .u64 b) w := by kernel_rfl
theorem ix2 (a b c d : Int) (w : World) : (Instr.index 33 (.agg #[.int .u64 a, .int .u64 b, .int .u64 c, .int .u64 d]) (.int .i64 2)).run Tryz.prog w = .ok (.int .u64 c) w := by kernel_rfl
theorem ix3 (a b c d : Int) (w : World) : (Instr.index 33 (.agg #[.int .u64 a, .int .u64 b, .int .u64 c, .int .u64 d]) (.int .i64 3)).run Tryz.prog w = .ok (.int .u64 d) w := by kernel_rfl

/-- The words of a set while a going over turns them into another's: behind k words. -/
def mixed (s t : BS) (k : Nat) (a b c d : Int) : Prop :=
  k = 0 ∧ a = wdI s 0 ∧ b = wdI s 1 ∧ c = wdI s 2 ∧ d = wdI s 3 ∨ k = 1 ∧ a = wdI t 0 ∧ b = wdI s 1 ∧ c = wdI s 2 ∧ d = wdI s 3 ∨ k = 2 ∧ a = wdI t 0 ∧ b = wdI t 1 ∧ c = wdI s 2 ∧ d = wdI s 3 ∨
    k = 3 ∧ a = wdI t 0 ∧ b = wdI t 1 ∧ c = wdI t 2 ∧ d = wdI s 3 ∨ k = 4 ∧ a = wdI t 0 ∧ b = wdI t 1 ∧ c = wdI t 2 ∧ d = wdI t 3

set_option maxRecDepth 100000 in
set_option maxHeartbeats 2000000 in
theorem not_any (s : BS) (w : World) : Calls Tryz.prog 69 #[vset s] w fun e w' => e = .returned (vset (~~~s)) ∧ Below w.heap.size w w' := by
  have h0 := wdI_not s 0 (by omega)
  have h1 := wdI_not s 1 (by omega)
  have h2 := wdI_not s 2 (by omega)
  have h3 := wdI_not s 3 (by omega)
  unfold vset
  go_enter Tryz.func69, Tryz.ntmps69
  go_wp2
  go_loopw [4] (fun i wr => ∃ (k : Nat) (a b c d : Int), i = .int .i64 k ∧ wr = (w.alloc (.cells #[.int .u64 a, .int .u64 b, .int .u64 c, .int .u64 d] 33)).alloc (.cells #[.int .u64 0, .int .u64 0, .int .u64 0, .int .u64 0] 33) ∧ mixed s (~~~s) k a b c d)
    (fun i _ => 4 - (intOf i).toNat)
  case atStart => exact ⟨0, _, _, _, _, rfl, rfl, .inl ⟨rfl, rfl, rfl, rfl, rfl⟩⟩
  case round =>
    obtain ⟨k, a, b, c, d, rfl, rfl, hk⟩ := hrel
    rcases hk with ⟨rfl, rfl, rfl, rfl, rfl⟩ | ⟨rfl, rfl, rfl, rfl, rfl⟩ | ⟨rfl, rfl, rfl, rfl, rfl⟩ | ⟨rfl, rfl, rfl, rfl, rfl⟩ | ⟨rfl, rfl, rfl, rfl, rfl⟩
    · go_wp2
      go_roundw
      case rel => exact ⟨1, _, _, _, _, by go_num, rfl, .inr (.inl ⟨rfl, rfl, rfl, rfl, rfl⟩)⟩
      case measure => simp [intOf]
    · go_wp2
      go_roundw
      case rel => exact ⟨2, _, _, _, _, by go_num, rfl, .inr (.inr (.inl ⟨rfl, rfl, rfl, rfl, rfl⟩))⟩
      case measure => simp [intOf]
    · go_wp2
      go_roundw
      case rel => exact ⟨3, _, _, _, _, by go_num, rfl, .inr (.inr (.inr (.inl ⟨rfl, rfl, rfl, rfl, rfl⟩)))⟩
      case measure => simp [intOf]
    · go_wp2
      go_roundw
      case rel => exact ⟨4, _, _, _, _, by go_num, rfl, .inr (.inr (.inr (.inr ⟨rfl, rfl, rfl, rfl, rfl⟩)))⟩
      case measure => simp [intOf]
    · go_wp2
      refine bodyPost_ret (v := .agg #[.int .u64 (wdI (~~~s) 0), .int .u64 (wdI (~~~s) 1), .int .u64 (wdI (~~~s) 2), .int .u64 (wdI (~~~s) 3)]) (by simp [results, Tryz.results69, go_sem]) rfl ⟨rfl, ?_⟩
      exact ((Below.refl _ _).alloc (Nat.le_refl _) _).alloc (by simp) _

theorem vset_zero : (Value.agg #[.int .u64 0, .int .u64 0, .int .u64 0, .int .u64 0]) = vset 0#256 := by
  have h : ∀ i, i < 4 → wdI 0#256 i = 0 := by decide
  unfold vset; rw [h 0 (by omega), h 1 (by omega), h 2 (by omega), h 3 (by omega)]

/-- All bytes. -/
def full : BS := ~~~0#256

theorem not_zero (w : World) : Calls Tryz.prog 69 #[.agg #[.int .u64 0, .int .u64 0, .int .u64 0, .int .u64 0]] w fun e w' => e = .returned (.agg #[.int .u64 (wdI full 0), .int .u64 (wdI full 1), .int .u64 (wdI full 2), .int .u64 (wdI full 3)]) ∧ Below w.heap.size w w' := by
  rw [vset_zero]; exact not_any 0#256 w

end Go.Proofs.YtdodkbpagbblmaaGreatDoor
end
