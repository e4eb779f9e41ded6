import Derived.WalkKit
import Derived.Test.YtegmoeeeomjkgaaDoorProg
import Derived.RangeFuncNested
import Derived.RangeFuncBound
import Derived.RangeFuncCalls
import Derived.RangeFuncLeaves
import Derived.Deep.RegionWith
import Derived.Deep.RegionHeld3
import Derived.WalkSpells
import Derived.WalkLawsBesides
import Derived.Lib.Hide
import Derived.Shelf.Small.Strs
import Derived.Shelf.Small.Wraps
import Derived.Shelf.LaysM
import Derived.Shelf.LaysC
import Derived.Shelf.Strconv.ToError
import Derived.Shelf.Strconv.Lower
import Derived.Shelf.Strings.Search1
import Derived.Shelf.Strings.Prefix
import Derived.Shelf.Spec.TrailingZeros
import Derived.Shelf.Strconv.ParseUint10
import Derived.Test.YtegmoeeeomjkgaaDoorCards
import Derived.Test.YtegmoeeeomjkgaaDoorTie
import Derived.ProofKit
import Derived.OpenShut
import Derived.LaidMore
import Derived.Deep.DeepHandedRow
import Derived.Lib.LaidTab
import Derived.Lib.LaidU8
import Derived.Below
import Derived.Carry
import Derived.Deep.DeepWitnessRowRef
import Derived.Deep.QuietTactic
import Derived.BigQuiet
import Derived.IntWalk
import Derived.Deep.RegionLaw
section
namespace Go.Proofs.YtegmoeeeomjkgaaDoor
open Go Go.RowKit

/-- A set of bytes. -/
abbrev BS := BitVec 256

/-- A word of a set. -/
def wd (s : BS) (i : Nat) : BitVec 64 := s.extractLsb' (64 * i) 64
def wdI (s : BS) (i : Nat) : Int := ((wd s i).toNat : Int)
def cset (s : BS) : Array Value := #[.int .u64 (wdI s 0), .int .u64 (wdI s 1), .int .u64 (wdI s 2), .int .u64 (wdI s 3)]
def vset (s : BS) : Value := .agg #[.int .u64 (wdI s 0), .int .u64 (wdI s 1), .int .u64 (wdI s 2), .int .u64 (wdI s 3)]

theorem wd_bit (s : BS) (i j : Nat) : (wd s i).getLsbD j = (decide (j < 64) && s.getLsbD (64 * i + j)) := by
  simp [wd, BitVec.getLsbD_extractLsb']

theorem ofInt_nat (x : BitVec 64) : BitVec.ofInt 64 (x.toNat : Int) = x := by
  rw [BitVec.ofInt_natCast]; simp

theorem wrap_bv (x : BitVec 64) : IntKind.u64.wrap (x.toNat : Int) = (x.toNat : Int) := by
  have := x.isLt
  rw [IntKind.wrap_u64]; omega

theorem bits_or_bv (x y : BitVec 64) : bits .or .u64 (x.toNat : Int) (y.toNat : Int) = ((x ||| y).toNat : Int) := by
  show IntKind.u64.wrap ((BitVec.ofInt 64 (x.toNat : Int) ||| BitVec.ofInt 64 (y.toNat : Int)).toNat : Int) = _
  rw [ofInt_nat, ofInt_nat, wrap_bv]
theorem bits_and_bv (x y : BitVec 64) : bits .and .u64 (x.toNat : Int) (y.toNat : Int) = ((x &&& y).toNat : Int) := by
  show IntKind.u64.wrap ((BitVec.ofInt 64 (x.toNat : Int) &&& BitVec.ofInt 64 (y.toNat : Int)).toNat : Int) = _
  rw [ofInt_nat, ofInt_nat, wrap_bv]
theorem bits_xor_bv (x y : BitVec 64) : bits .xor .u64 (x.toNat : Int) (y.toNat : Int) = ((x ^^^ y).toNat : Int) := by
  show IntKind.u64.wrap ((BitVec.ofInt 64 (x.toNat : Int) ^^^ BitVec.ofInt 64 (y.toNat : Int)).toNat : Int) = _
  rw [ofInt_nat, ofInt_nat, wrap_bv]
theorem bits_andNot_bv (x y : BitVec 64) : bits .andNot .u64 (x.toNat : Int) (y.toNat : Int) = ((x &&& ~~~y).toNat : Int) := by
  show IntKind.u64.wrap ((BitVec.ofInt 64 (x.toNat : Int) &&& ~~~BitVec.ofInt 64 (y.toNat : Int)).toNat : Int) = _
  rw [ofInt_nat, ofInt_nat, wrap_bv]

theorem wd_or (s t : BS) (i : Nat) : wd (s ||| t) i = wd s i ||| wd t i := by
  apply BitVec.eq_of_getLsbD_eq; intro j hj
  rw [BitVec.getLsbD_or, wd_bit, wd_bit, wd_bit, BitVec.getLsbD_or]
  simp [hj]
theorem wd_and (s t : BS) (i : Nat) : wd (s &&& t) i = wd s i &&& wd t i := by
  apply BitVec.eq_of_getLsbD_eq; intro j hj
  rw [BitVec.getLsbD_and, wd_bit, wd_bit, wd_bit, BitVec.getLsbD_and]
  simp [hj]
theorem wd_not (s : BS) (i : Nat) (h : i < 4) : wd (~~~s) i = ~~~(wd s i) := by
  apply BitVec.eq_of_getLsbD_eq; intro j hj
  have : 64 * i + j < 256 := by omega
  rw [BitVec.getLsbD_not, wd_bit, wd_bit, BitVec.getLsbD_not]
  simp [hj, this]

theorem wdI_or (s t : BS) (i : Nat) : bits .or .u64 (wdI s i) (wdI t i) = wdI (s ||| t) i := by
  unfold wdI; rw [bits_or_bv, wd_or]
theorem wdI_and (s t : BS) (i : Nat) : bits .and .u64 (wdI s i) (wdI t i) = wdI (s &&& t) i := by
  unfold wdI; rw [bits_and_bv, wd_and]
theorem wdI_andNot (s t : BS) (i : Nat) (h : i < 4) : bits .andNot .u64 (wdI s i) (wdI t i) = wdI (s &&& ~~~t) i := by
  unfold wdI; rw [bits_andNot_bv, wd_and, wd_not _ _ h]
theorem wdI_not (s : BS) (i : Nat) (h : i < 4) : bits .xor .u64 (wdI s i) 18446744073709551615 = wdI (~~~s) i := by
  have e : (18446744073709551615 : Int) = ((BitVec.allOnes 64).toNat : Int) := by decide
  unfold wdI; rw [e, bits_xor_bv, wd_not _ _ h, BitVec.xor_allOnes]

theorem wdI_lo (s : BS) (i : Nat) : 0 ≤ wdI s i := by unfold wdI; omega
theorem wdI_hi (s : BS) (i : Nat) : wdI s i < 18446744073709551616 := by have := (wd s i).isLt; unfold wdI; omega

theorem set_ext {s t : BS} (h : ∀ i, i < 4 → wd s i = wd t i) : s = t := by
  apply BitVec.eq_of_getLsbD_eq; intro j hj
  have := congrArg (fun x => BitVec.getLsbD x (j % 64)) (h (j / 64) (by omega))
  simp only [wd_bit] at this
  have e : 64 * (j / 64) + j % 64 = j := by omega
  have e2 : j % 64 < 64 := by omega
  simpa [e, e2] using this

theorem wdI_inj {s t : BS} (h0 : wdI s 0 = wdI t 0) (h1 : wdI s 1 = wdI t 1) (h2 : wdI s 2 = wdI t 2) (h3 : wdI s 3 = wdI t 3) : s = t := by
  apply set_ext
  intro i hi
  apply BitVec.eq_of_toNat_eq
  have h : i = 0 ∨ i = 1 ∨ i = 2 ∨ i = 3 := by omega
  unfold wdI at h0 h1 h2 h3
  rcases h with rfl | rfl | rfl | rfl <;> omega

theorem wd_app (x y z u : BitVec 64) (i : Nat) (hi : i < 4) : wd ((x ++ y) ++ (z ++ u) : BitVec 256) i = if i = 0 then u else if i = 1 then z else if i = 2 then y else x := by
  apply BitVec.eq_of_getLsbD_eq; intro j hj
  rw [wd_bit, BitVec.getLsbD_append, BitVec.getLsbD_append, BitVec.getLsbD_append]
  have h : i = 0 ∨ i = 1 ∨ i = 2 ∨ i = 3 := by omega
  rcases h with rfl | rfl | rfl | rfl
  · have h1 : 64 * 0 + j < 64 + 64 := by omega
    have h2 : 64 * 0 + j < 64 := by omega
    simp only [h1, h2, hj, if_true, decide_true, Bool.true_and]
    simp
  · have h1 : 64 * 1 + j < 64 + 64 := by omega
    have h2 : ¬ 64 * 1 + j < 64 := by omega
    have h3 : 64 * 1 + j - 64 = j := by omega
    simp only [h1, h2, h3, hj, if_true, if_false, decide_true, Bool.true_and]
    simp
  · have h1 : ¬ 64 * 2 + j < 64 + 64 := by omega
    have h2 : 64 * 2 + j - (64 + 64) < 64 := by omega
    have h3 : 64 * 2 + j - (64 + 64) = j := by omega
    simp only [h1, h3, hj, if_true, if_false, decide_true, Bool.true_and]
    simp
  · have h1 : ¬ 64 * 3 + j < 64 + 64 := by omega
    have h2 : ¬ 64 * 3 + j - (64 + 64) < 64 := by omega
    have h3 : 64 * 3 + j - (64 + 64) - 64 = j := by omega
    simp only [h1, h2, h3, hj, if_true, if_false, decide_true, Bool.true_and]
    simp

theorem set_of_words (a b c d : Int) (ha : 0 ≤ a ∧ a < 18446744073709551616) (hb : 0 ≤ b ∧ b < 18446744073709551616) (hc : 0 ≤ c ∧ c < 18446744073709551616) (hd : 0 ≤ d ∧ d < 18446744073709551616) :
    ∃ s : BS, a = wdI s 0 ∧ b = wdI s 1 ∧ c = wdI s 2 ∧ d = wdI s 3 := by
  refine ⟨((BitVec.ofNat 64 d.toNat ++ BitVec.ofNat 64 c.toNat) ++ (BitVec.ofNat 64 b.toNat ++ BitVec.ofNat 64 a.toNat) : BitVec 256), ?_, ?_, ?_, ?_⟩
  all_goals
    unfold wdI
    rw [wd_app _ _ _ _ _ (by omega)]
    simp
    omega

/-- One byte alone. -/
def one (b : Nat) : BS := BitVec.twoPow 256 b

theorem one_bit (b j : Nat) (hb : b < 256) : (one b).getLsbD j = decide (b = j) := by
  unfold one; rw [BitVec.getLsbD_twoPow]; simp [hb]

/-- A set and a byte more. -/
def withB (s : BS) (b : Nat) : BS := s ||| one b

theorem withB_bit (s : BS) (b j : Nat) (hb : b < 256) : (withB s b).getLsbD j = (s.getLsbD j || decide (b = j)) := by
  unfold withB; rw [BitVec.getLsbD_or, one_bit b j hb]

theorem wd_one (b i : Nat) (hb : b < 256) : wd (one b) i = if i = b / 64 then BitVec.twoPow 64 (b % 64) else 0#64 := by
  apply BitVec.eq_of_getLsbD_eq; intro j hj
  rw [wd_bit, one_bit _ _ hb]
  by_cases h : i = b / 64
  · rw [if_pos h, BitVec.getLsbD_twoPow]
    have e : (b = 64 * i + j) ↔ (b % 64 = j) := by omega
    have e2 : b % 64 < 64 := by omega
    simp [hj, e, e2]
  · rw [if_neg h]
    have e : ¬ (b = 64 * i + j) := by omega
    simp [e]

/-- The word in which a byte lies, with it. -/
theorem wd_with (s : BS) (b i : Nat) (hb : b < 256) : wd (withB s b) i = if i = b / 64 then wd s i ||| BitVec.twoPow 64 (b % 64) else wd s i := by
  unfold withB; rw [wd_or, wd_one _ _ hb]
  split <;> simp

end Go.Proofs.YtegmoeeeomjkgaaDoor
end
section
namespace Go.Proofs.YtegmoeeeomjkgaaDoor
open Go Go.RowKit

theorem cells_at (s : BS) (i : Nat) (h : i < 4) : [Value.int IntKind.u64 (wdI s 0), Value.int IntKind.u64 (wdI s 1), Value.int IntKind.u64 (wdI s 2), Value.int IntKind.u64 (wdI s 3)][i]? = some (.int .u64 (wdI s i)) := by
  have h : i = 0 ∨ i = 1 ∨ i = 2 ∨ i = 3 := by omega
  rcases h with rfl | rfl | rfl | rfl <;> rfl

theorem two_pow_bv (j : Nat) (hj : j < 64) : IntKind.u64.wrap (2 ^ j) = ((BitVec.twoPow 64 j).toNat : Int) := by
  rw [BitVec.toNat_twoPow]
  have h : 2 ^ j < 2 ^ 64 := Nat.pow_lt_pow_right (by omega) hj
  rw [Nat.mod_eq_of_lt h, IntKind.wrap_u64]
  have e : (2 : Int) ^ j = ((2 ^ j : Nat) : Int) := by simp
  rw [e]
  generalize (2 ^ j : Nat) = X at h
  omega

/-- The word in which a byte lies, with it, as the program reckons it; the others stay. -/
theorem wdI_with (s : BS) (b i : Nat) (hb : b < 256) (h : b / 64 = i) : bits .or .u64 (wdI s i) (IntKind.u64.wrap (2 ^ (b % 64))) = wdI (withB s b) i := by
  rw [two_pow_bv _ (by omega)]; unfold wdI
  rw [bits_or_bv, wd_with s b i hb, if_pos h.symm]
theorem wdI_with_other (s : BS) (b i : Nat) (hb : b < 256) (h : b / 64 ≠ i) : wdI (withB s b) i = wdI s i := by
  unfold wdI
  rw [wd_with s b i hb, if_neg (fun e => h e.symm)]

theorem bit_I (s : BS) (b : Nat) (_hb : b < 256) : (bits .and .u64 (wdI s (b / 64) / 2 ^ (b % 64)) 1 == 1) = s.getLsbD b := by
  have e : wdI s (b / 64) / 2 ^ (b % 64) = ((wd s (b / 64)).toNat / 2 ^ (b % 64) : Nat) := by
    unfold wdI; simp
  have hlt := (wd s (b / 64)).isLt
  have hl2 : (wd s (b / 64)).toNat / 2 ^ (b % 64) < 18446744073709551616 := Nat.lt_of_le_of_lt (Nat.div_le_self _ _) hlt
  have h3 := wd_bit s (b / 64) (b % 64)
  have e4 : 64 * (b / 64) + b % 64 = b := by omega
  have e5 : b % 64 < 64 := by omega
  rw [e4] at h3
  simp only [e5, decide_true, Bool.true_and] at h3
  rw [← h3, BitVec.getLsbD, Nat.testBit_eq_decide_div_mod_eq, e]
  have e1 : (1 : Int) = ((1 : Nat) : Int) := rfl
  rw [e1, bits_and_u64_nat _ 1 hl2 (by omega), Nat.and_one_is_mod]
  generalize (wd s (b / 64)).toNat / 2 ^ (b % 64) = X
  have : X % 2 = 0 ∨ X % 2 = 1 := by omega
  rcases this with h | h <;> rw [h] <;> rfl

set_option maxHeartbeats 400000 in
theorem has_any (s : BS) (b : Nat) (hb : b < 256) (w : World) : Calls Tryd.prog 16 #[vset s, .int .u8 b] w fun e w' => e = .returned (.bool (s.getLsbD b)) ∧ Below w.heap.size w w' := by
  have hr := bit_I s b hb
  rw [← hr]; clear hr
  unfold vset
  have hc := cells_at s (b / 64) (by omega)
  go_enter Tryd.func16, Tryd.ntmps16
  go_wp2
  go_ret
  exact ⟨rfl, (Below.refl _ _).alloc (Nat.le_refl _) _⟩

set_option maxHeartbeats 1000000 in
theorem with_any (s : BS) (b : Nat) (hb : b < 256) (w : World) : Calls Tryd.prog 43 #[vset s, .int .u8 b] w fun e w' => e = .returned (vset (withB s b)) ∧ Below w.heap.size w w' := by
  have h : b / 64 = 0 ∨ b / 64 = 1 ∨ b / 64 = 2 ∨ b / 64 = 3 := by omega
  rcases h with h | h | h | h
  · have hk := wdI_with s b 0 hb h
    have h1 := wdI_with_other s b 1 hb (by omega)
    have h2 := wdI_with_other s b 2 hb (by omega)
    have h3 := wdI_with_other s b 3 hb (by omega)
    unfold vset
    rw [h1, h2, h3]
    go_enter Tryd.func43, Tryd.ntmps43
    go_wp2
    refine bodyPost_ret (v := .agg #[.int .u64 (wdI (withB s b) 0), .int .u64 (wdI s 1), .int .u64 (wdI s 2), .int .u64 (wdI s 3)]) (by simp [results, Tryd.results43, go_sem]) rfl ⟨rfl, ?_⟩
    exact ((Below.refl _ _).alloc (Nat.le_refl _) _).alloc (by simp) _
  · have hk := wdI_with s b 1 hb h
    have h0 := wdI_with_other s b 0 hb (by omega)
    have h2 := wdI_with_other s b 2 hb (by omega)
    have h3 := wdI_with_other s b 3 hb (by omega)
    unfold vset
    rw [h0, h2, h3]
    go_enter Tryd.func43, Tryd.ntmps43
    go_wp2
    refine bodyPost_ret (v := .agg #[.int .u64 (wdI s 0), .int .u64 (wdI (withB s b) 1), .int .u64 (wdI s 2), .int .u64 (wdI s 3)]) (by simp [results, Tryd.results43, go_sem]) rfl ⟨rfl, ?_⟩
    exact ((Below.refl _ _).alloc (Nat.le_refl _) _).alloc (by simp) _
  · have hk := wdI_with s b 2 hb h
    have h0 := wdI_with_other s b 0 hb (by omega)
    have h1 := wdI_with_other s b 1 hb (by omega)
    have h3 := wdI_with_other s b 3 hb (by omega)
    unfold vset
    rw [h0, h1, h3]
    go_enter Tryd.func43, Tryd.ntmps43
    go_wp2
    refine bodyPost_ret (v := .agg #[.int .u64 (wdI s 0), .int .u64 (wdI s 1), .int .u64 (wdI (withB s b) 2), .int .u64 (wdI s 3)]) (by simp [results, Tryd.results43, go_sem]) rfl ⟨rfl, ?_⟩
    exact ((Below.refl _ _).alloc (Nat.le_refl _) _).alloc (by simp) _
  · have hk := wdI_with s b 3 hb h
    have h0 := wdI_with_other s b 0 hb (by omega)
    have h1 := wdI_with_other s b 1 hb (by omega)
    have h2 := wdI_with_other s b 2 hb (by omega)
    unfold vset
    rw [h0, h1, h2]
    go_enter Tryd.func43, Tryd.ntmps43
    go_wp2
    refine bodyPost_ret (v := .agg #[.int .u64 (wdI s 0), .int .u64 (wdI s 1), .int .u64 (wdI s 2), .int .u64 (wdI (withB s b) 3)]) (by simp [results, Tryd.results43, go_sem]) rfl ⟨rfl, ?_⟩
    exact ((Below.refl _ _).alloc (Nat.le_refl _) _).alloc (by simp) _
end Go.Proofs.YtegmoeeeomjkgaaDoor
end
section
namespace Go.Proofs.YtegmoeeeomjkgaaDoor
open Go Go.RowKit

/-- A block of cells known whole, none frozen. -/
def Blk (W : World) (B : Nat) (t : TypeId) (cs : Array Value) : Prop := W.heap[B]? = some (.cells cs t (0, 0))

theorem Blk.lt {W : World} {B t : Nat} {cs : Array Value} (h : Blk W B t cs) : B < W.heap.size := (Array.getElem?_eq_some_iff.1 h).1
theorem Blk.cell {W : World} {B t : Nat} {cs : Array Value} (h : Blk W B t cs) (i : Nat) : W.cell? ⟨B, i, none⟩ = cs[i]? := by
  unfold World.cell?
  simp only [show W.heap[B]? = _ from h]
  rfl
theorem Blk.frozen {W : World} {B t : Nat} {cs : Array Value} (h : Blk W B t cs) (i : Nat) : W.frozen? ⟨B, i, none⟩ = false := by
  unfold World.frozen?
  simp only [show W.heap[B]? = _ from h]
  simp
theorem Blk.new (W : World) (t : TypeId) (cs : Array Value) : Blk (W.alloc (.cells cs t)) W.heap.size t cs := World.alloc_heap_new W _
theorem Blk.kept {W W' : World} {row : Option Nat} {B t : Nat} {cs : Array Value} (h : Blk W B t cs) (hg : W.grownBy W' row) (hne : some B ≠ row) : Blk W' B t cs := (hg.block B h.lt hne).trans h
theorem Blk.alloc {W : World} {B t : Nat} {cs : Array Value} (h : Blk W B t cs) (o : Obj) : Blk (W.alloc o) B t cs := h.kept (World.grownBy_alloc W o none) (by simp)
theorem Blk.drew {W : World} {B t : Nat} {cs : Array Value} (h : Blk W B t cs) : Blk W.drew B t cs := h
theorem Blk.below {W W' : World} {n B t : Nat} {cs : Array Value} (h : Blk W B t cs) (hb : Below n W W') (hn : B < n) : Blk W' B t cs := (hb.block B hn).trans h
theorem Blk.other {W : World} {B t : Nat} {cs : Array Value} (h : Blk W B t cs) {a : Addr} (hne : B ≠ a.block) (u : Value) : Blk (W.setCell a u) B t cs := (Below.heap_setCell W a u B hne).trans h
theorem Blk.set {W : World} {B t : Nat} {cs : Array Value} (h : Blk W B t cs) (i : Nat) (u : Value) : Blk (W.setCell ⟨B, i, none⟩ u) B t (cs.setIfInBounds i u) := by
  obtain ⟨hlt, hk⟩ := Array.getElem?_eq_some_iff.1 h
  show (W.heap.modify B _)[B]? = _
  rw [Array.getElem?_eq_getElem (by rw [Array.size_modify]; exact hlt), Array.getElem_modify_self, hk]
  rfl

theorem Blk.set4 {W : World} {B t : Nat} {a b c d : Value} (h : Blk W B t #[a, b, c, d]) (a' b' c' d' : Value) :
    Blk ((((W.setCell ⟨B, 0, none⟩ a').setCell ⟨B, 1, none⟩ b').setCell ⟨B, 2, none⟩ c').setCell ⟨B, 3, none⟩ d') B t #[a', b', c', d'] := by
  simpa using (((h.set 0 a').set 1 b').set 2 c').set 3 d'
theorem below_set4 {n B : Nat} {w W : World} (h : Below n w W) (hn : n ≤ B) (a' b' c' d' : Value) :
    Below n w ((((W.setCell ⟨B, 0, none⟩ a').setCell ⟨B, 1, none⟩ b').setCell ⟨B, 2, none⟩ c').setCell ⟨B, 3, none⟩ d') :=
  (((h.setCell (p := ⟨B, 0, none⟩) hn _).setCell (p := ⟨B, 1, none⟩) hn _).setCell (p := ⟨B, 2, none⟩) hn _).setCell (p := ⟨B, 3, none⟩) hn _

theorem below_drew_trans {w W w' : World} (h : Below w.heap.size w W) (hB : Below W.drew.heap.size W.drew w') : Below w.heap.size w w' :=
  h.drew.trans (Below.mono hB h.size)

theorem ix0 (a b c d : Int) (w : World) : (Instr.index 29 (.agg #[.int .u64 a, .int .u64 b, .int .u64 c, .int .u64 d]) (.int .i64 0)).run Tryd.prog w = .ok (.int .u64 a) w := by kernel_rfl
theorem ix1 (a b c d : Int) (w : World) : (Instr.index 29 (.agg #[.int .u64 a, .int .u64 b, .int .u64 c, .int .u64 d]) (.int .i64 1)).run Tryd.prog w = .ok (.int .u64 b) w := by kernel_rfl
theorem ix2 (a b c d : Int) (w : World) : (Instr.index 29 (.agg #[.int .u64 a, .int .u64 b, .int .u64 c, .int .u64 d]) (.int .i64 2)).run Tryd.prog w = .ok (.int .u64 c) w := by kernel_rfl
theorem ix3 (a b c d : Int) (w : World) : (Instr.index 29 (.agg #[.int .u64 a, .int .u64 b, .int .u64 c, .int .u64 d]) (.int .i64 3)).run Tryd.prog w = .ok (.int .u64 d) w := by kernel_rfl

/-- The words of a set while a going over turns them into another's: behind k words. -/
def mixed (s t : BS) (k : Nat) (a b c d : Int) : Prop :=
  k = 0 ∧ a = wdI s 0 ∧ b = wdI s 1 ∧ c = wdI s 2 ∧ d = wdI s 3 ∨ k = 1 ∧ a = wdI t 0 ∧ b = wdI s 1 ∧ c = wdI s 2 ∧ d = wdI s 3 ∨ k = 2 ∧ a = wdI t 0 ∧ b = wdI t 1 ∧ c = wdI s 2 ∧ d = wdI s 3 ∨
    k = 3 ∧ a = wdI t 0 ∧ b = wdI t 1 ∧ c = wdI t 2 ∧ d = wdI s 3 ∨ k = 4 ∧ a = wdI t 0 ∧ b = wdI t 1 ∧ c = wdI t 2 ∧ d = wdI t 3

set_option maxRecDepth 100000 in
set_option maxHeartbeats 2000000 in
theorem meet_any (s t : BS) (w : World) : Calls Tryd.prog 26 #[vset s, vset t] w fun e w' => e = .returned (vset (s &&& t)) ∧ Below w.heap.size w w' := by
  have h0 := wdI_and s t 0
  have h1 := wdI_and s t 1
  have h2 := wdI_and s t 2
  have h3 := wdI_and s t 3
  have i0 := ix0 (wdI t 0) (wdI t 1) (wdI t 2) (wdI t 3)
  have i1 := ix1 (wdI t 0) (wdI t 1) (wdI t 2) (wdI t 3)
  have i2 := ix2 (wdI t 0) (wdI t 1) (wdI t 2) (wdI t 3)
  have i3 := ix3 (wdI t 0) (wdI t 1) (wdI t 2) (wdI t 3)
  unfold vset
  go_enter Tryd.func26, Tryd.ntmps26
  go_wp2
  go_loopw [8] (fun i wr => ∃ (k : Nat) (a b c d : Int), i = .int .i64 k ∧ wr = ((w.alloc (.cells #[.int .u64 a, .int .u64 b, .int .u64 c, .int .u64 d] 29)).alloc (.cells #[.int .u64 (wdI t 0), .int .u64 (wdI t 1), .int .u64 (wdI t 2), .int .u64 (wdI t 3)] 29)).alloc (.cells #[.int .u64 0, .int .u64 0, .int .u64 0, .int .u64 0] 29) ∧ mixed s (s &&& t) k a b c d)
    (fun i _ => 4 - (intOf i).toNat)
  case atStart => exact ⟨0, _, _, _, _, rfl, rfl, .inl ⟨rfl, rfl, rfl, rfl, rfl⟩⟩
  case round =>
    obtain ⟨k, a, b, c, d, rfl, rfl, hk⟩ := hrel
    rcases hk with ⟨rfl, rfl, rfl, rfl, rfl⟩ | ⟨rfl, rfl, rfl, rfl, rfl⟩ | ⟨rfl, rfl, rfl, rfl, rfl⟩ | ⟨rfl, rfl, rfl, rfl, rfl⟩ | ⟨rfl, rfl, rfl, rfl, rfl⟩
    · go_wp2
      go_roundw
      case rel => exact ⟨1, _, _, _, _, by go_num, rfl, .inr (.inl ⟨rfl, rfl, rfl, rfl, rfl⟩)⟩
      case measure => simp [intOf]
    · go_wp2
      go_roundw
      case rel => exact ⟨2, _, _, _, _, by go_num, rfl, .inr (.inr (.inl ⟨rfl, rfl, rfl, rfl, rfl⟩))⟩
      case measure => simp [intOf]
    · go_wp2
      go_roundw
      case rel => exact ⟨3, _, _, _, _, by go_num, rfl, .inr (.inr (.inr (.inl ⟨rfl, rfl, rfl, rfl, rfl⟩)))⟩
      case measure => simp [intOf]
    · go_wp2
      go_roundw
      case rel => exact ⟨4, _, _, _, _, by go_num, rfl, .inr (.inr (.inr (.inr ⟨rfl, rfl, rfl, rfl, rfl⟩)))⟩
      case measure => simp [intOf]
    · go_wp2
      refine bodyPost_ret (v := .agg #[.int .u64 (wdI (s &&& t) 0), .int .u64 (wdI (s &&& t) 1), .int .u64 (wdI (s &&& t) 2), .int .u64 (wdI (s &&& t) 3)]) (by simp [results, Tryd.results26, go_sem]) rfl ⟨rfl, ?_⟩
      exact (((Below.refl _ _).alloc (Nat.le_refl _) _).alloc (by simp) _).alloc (by simp; omega) _

set_option maxRecDepth 100000 in
set_option maxHeartbeats 2000000 in
theorem without_any (s t : BS) (w : World) : Calls Tryd.prog 28 #[vset s, vset t] w fun e w' => e = .returned (vset (s &&& ~~~t)) ∧ Below w.heap.size w w' := by
  have h0 := wdI_andNot s t 0 (by omega)
  have h1 := wdI_andNot s t 1 (by omega)
  have h2 := wdI_andNot s t 2 (by omega)
  have h3 := wdI_andNot s t 3 (by omega)
  have i0 := ix0 (wdI t 0) (wdI t 1) (wdI t 2) (wdI t 3)
  have i1 := ix1 (wdI t 0) (wdI t 1) (wdI t 2) (wdI t 3)
  have i2 := ix2 (wdI t 0) (wdI t 1) (wdI t 2) (wdI t 3)
  have i3 := ix3 (wdI t 0) (wdI t 1) (wdI t 2) (wdI t 3)
  unfold vset
  go_enter Tryd.func28, Tryd.ntmps28
  go_wp2
  go_loopw [8] (fun i wr => ∃ (k : Nat) (a b c d : Int), i = .int .i64 k ∧ wr = ((w.alloc (.cells #[.int .u64 a, .int .u64 b, .int .u64 c, .int .u64 d] 29)).alloc (.cells #[.int .u64 (wdI t 0), .int .u64 (wdI t 1), .int .u64 (wdI t 2), .int .u64 (wdI t 3)] 29)).alloc (.cells #[.int .u64 0, .int .u64 0, .int .u64 0, .int .u64 0] 29) ∧ mixed s (s &&& ~~~t) k a b c d)
    (fun i _ => 4 - (intOf i).toNat)
  case atStart => exact ⟨0, _, _, _, _, rfl, rfl, .inl ⟨rfl, rfl, rfl, rfl, rfl⟩⟩
  case round =>
    obtain ⟨k, a, b, c, d, rfl, rfl, hk⟩ := hrel
    rcases hk with ⟨rfl, rfl, rfl, rfl, rfl⟩ | ⟨rfl, rfl, rfl, rfl, rfl⟩ | ⟨rfl, rfl, rfl, rfl, rfl⟩ | ⟨rfl, rfl, rfl, rfl, rfl⟩ | ⟨rfl, rfl, rfl, rfl, rfl⟩
    · go_wp2
      go_roundw
      case rel => exact ⟨1, _, _, _, _, by go_num, rfl, .inr (.inl ⟨rfl, rfl, rfl, rfl, rfl⟩)⟩
      case measure => simp [intOf]
    · go_wp2
      go_roundw
      case rel => exact ⟨2, _, _, _, _, by go_num, rfl, .inr (.inr (.inl ⟨rfl, rfl, rfl, rfl, rfl⟩))⟩
      case measure => simp [intOf]
    · go_wp2
      go_roundw
      case rel => exact ⟨3, _, _, _, _, by go_num, rfl, .inr (.inr (.inr (.inl ⟨rfl, rfl, rfl, rfl, rfl⟩)))⟩
      case measure => simp [intOf]
    · go_wp2
      go_roundw
      case rel => exact ⟨4, _, _, _, _, by go_num, rfl, .inr (.inr (.inr (.inr ⟨rfl, rfl, rfl, rfl, rfl⟩)))⟩
      case measure => simp [intOf]
    · go_wp2
      refine bodyPost_ret (v := .agg #[.int .u64 (wdI (s &&& ~~~t) 0), .int .u64 (wdI (s &&& ~~~t) 1), .int .u64 (wdI (s &&& ~~~t) 2), .int .u64 (wdI (s &&& ~~~t) 3)]) (by simp [results, Tryd.results28, go_sem]) rfl ⟨rfl, ?_⟩
      exact (((Below.refl _ _).alloc (Nat.le_refl _) _).alloc (by simp) _).alloc (by simp; omega) _

set_option maxRecDepth 100000 in
set_option maxHeartbeats 2000000 in
theorem not_any (s : BS) (w : World) : Calls Tryd.prog 29 #[vset s] w fun e w' => e = .returned (vset (~~~s)) ∧ Below w.heap.size w w' := by
  have h0 := wdI_not s 0 (by omega)
  have h1 := wdI_not s 1 (by omega)
  have h2 := wdI_not s 2 (by omega)
  have h3 := wdI_not s 3 (by omega)
  unfold vset
  go_enter Tryd.func29, Tryd.ntmps29
  go_wp2
  go_loopw [4] (fun i wr => ∃ (k : Nat) (a b c d : Int), i = .int .i64 k ∧ wr = (w.alloc (.cells #[.int .u64 a, .int .u64 b, .int .u64 c, .int .u64 d] 29)).alloc (.cells #[.int .u64 0, .int .u64 0, .int .u64 0, .int .u64 0] 29) ∧ mixed s (~~~s) k a b c d)
    (fun i _ => 4 - (intOf i).toNat)
  case atStart => exact ⟨0, _, _, _, _, rfl, rfl, .inl ⟨rfl, rfl, rfl, rfl, rfl⟩⟩
  case round =>
    obtain ⟨k, a, b, c, d, rfl, rfl, hk⟩ := hrel
    rcases hk with ⟨rfl, rfl, rfl, rfl, rfl⟩ | ⟨rfl, rfl, rfl, rfl, rfl⟩ | ⟨rfl, rfl, rfl, rfl, rfl⟩ | ⟨rfl, rfl, rfl, rfl, rfl⟩ | ⟨rfl, rfl, rfl, rfl, rfl⟩
    · go_wp2
      go_roundw
      case rel => exact ⟨1, _, _, _, _, by go_num, rfl, .inr (.inl ⟨rfl, rfl, rfl, rfl, rfl⟩)⟩
      case measure => simp [intOf]
    · go_wp2
      go_roundw
      case rel => exact ⟨2, _, _, _, _, by go_num, rfl, .inr (.inr (.inl ⟨rfl, rfl, rfl, rfl, rfl⟩))⟩
      case measure => simp [intOf]
    · go_wp2
      go_roundw
      case rel => exact ⟨3, _, _, _, _, by go_num, rfl, .inr (.inr (.inr (.inl ⟨rfl, rfl, rfl, rfl, rfl⟩)))⟩
      case measure => simp [intOf]
    · go_wp2
      go_roundw
      case rel => exact ⟨4, _, _, _, _, by go_num, rfl, .inr (.inr (.inr (.inr ⟨rfl, rfl, rfl, rfl, rfl⟩)))⟩
      case measure => simp [intOf]
    · go_wp2
      refine bodyPost_ret (v := .agg #[.int .u64 (wdI (~~~s) 0), .int .u64 (wdI (~~~s) 1), .int .u64 (wdI (~~~s) 2), .int .u64 (wdI (~~~s) 3)]) (by simp [results, Tryd.results29, go_sem]) rfl ⟨rfl, ?_⟩
      exact ((Below.refl _ _).alloc (Nat.le_refl _) _).alloc (by simp) _

theorem vset_zero : (Value.agg #[.int .u64 0, .int .u64 0, .int .u64 0, .int .u64 0]) = vset 0#256 := by
  have h : ∀ i, i < 4 → wdI 0#256 i = 0 := by decide
  unfold vset; rw [h 0 (by omega), h 1 (by omega), h 2 (by omega), h 3 (by omega)]

/-- All bytes. -/
def full : BS := ~~~0#256

theorem not_zero (w : World) : Calls Tryd.prog 29 #[.agg #[.int .u64 0, .int .u64 0, .int .u64 0, .int .u64 0]] w fun e w' => e = .returned (.agg #[.int .u64 (wdI full 0), .int .u64 (wdI full 1), .int .u64 (wdI full 2), .int .u64 (wdI full 3)]) ∧ Below w.heap.size w w' := by
  rw [vset_zero]; exact not_any 0#256 w

set_option maxHeartbeats 400000 in
theorem all_any (w : World) : Calls Tryd.prog 18 #[] w fun e w' => e = .returned (vset full) ∧ Below w.heap.size w w' := by
  unfold vset
  go_enter Tryd.func18, Tryd.ntmps18
  have hb := Blk.new w 29 #[.int .u64 0, .int .u64 0, .int .u64 0, .int .u64 0]
  go_wp2_with fail
  refine (not_zero _).mono ?_
  rintro e w' ⟨rfl, hB⟩
  have hb' := hb.below hB (by simp)
  have c0 : w'.cell? ⟨w.heap.size, 0, none⟩ = some (.int .u64 0) := hb'.cell 0
  have c1 : w'.cell? ⟨w.heap.size, 1, none⟩ = some (.int .u64 0) := hb'.cell 1
  have c2 : w'.cell? ⟨w.heap.size, 2, none⟩ = some (.int .u64 0) := hb'.cell 2
  have c3 : w'.cell? ⟨w.heap.size, 3, none⟩ = some (.int .u64 0) := hb'.cell 3
  have f0 : ∀ i, w'.frozen? ⟨w.heap.size, i, none⟩ = false := hb'.frozen
  go_wp2
  have hb2 := hb'.set4 (.int .u64 (wdI full 0)) (.int .u64 (wdI full 1)) (.int .u64 (wdI full 2)) (.int .u64 (wdI full 3))
  have d0 := hb2.cell 0
  have d1 := hb2.cell 1
  have d2 := hb2.cell 2
  have d3 := hb2.cell 3
  refine bodyPost_ret (v := .agg #[.int .u64 (wdI full 0), .int .u64 (wdI full 1), .int .u64 (wdI full 2), .int .u64 (wdI full 3)]) (by simp [results, Tryd.results18, go_sem, d0, d1, d2, d3]) rfl ⟨rfl, ?_⟩
  exact below_set4 (((Below.refl _ w).alloc (Nat.le_refl _) _).trans (hB.mono (by simp))) (Nat.le_refl _) _ _ _ _

end Go.Proofs.YtegmoeeeomjkgaaDoor
end
section
namespace Go.Proofs.YtegmoeeeomjkgaaDoor
open Go Go.RowKit

/-- A set and n bytes more, from f on. -/
def addN (s : BS) (f : Nat) : Nat → BS
  | 0 => s
  | n + 1 => withB (addN s f n) (f + n)

theorem addN_bit (s : BS) (f n j : Nat) (h : f + n ≤ 256) : (addN s f n).getLsbD j = (s.getLsbD j || decide (f ≤ j ∧ j < f + n)) := by
  induction n with
  | zero =>
    have : decide (f ≤ j ∧ j < f + 0) = false := decide_eq_false (by omega)
    rw [this]; simp [addN]
  | succ n ih =>
    rw [addN, withB_bit _ _ _ (by omega), ih (by omega), Bool.or_assoc]
    congr 1
    by_cases h1 : f + n = j
    · subst h1
      have : f ≤ f + n ∧ f + n < f + (n + 1) := by omega
      simp [this]
    · have : (f ≤ j ∧ j < f + (n + 1)) ↔ (f ≤ j ∧ j < f + n) := by omega
      simp [h1, this]

/-- A set and a range's bytes more. -/
def addR (s : BS) (r : Nat × Nat) : BS := addN s r.1 (r.2 + 1 - r.1)

theorem addR_bit (s : BS) (r : Nat × Nat) (j : Nat) (h2 : r.2 < 256) : (addR s r).getLsbD j = (s.getLsbD j || decide (r.1 ≤ j ∧ j ≤ r.2)) := by
  unfold addR
  by_cases h : r.1 ≤ r.2
  · rw [addN_bit _ _ _ _ (by omega)]
    have : (r.1 ≤ j ∧ j < r.1 + (r.2 + 1 - r.1)) ↔ (r.1 ≤ j ∧ j ≤ r.2) := by omega
    simp [this]
  · have e : r.2 + 1 - r.1 = 0 := by omega
    have : ¬ (r.1 ≤ j ∧ j ≤ r.2) := by omega
    rw [e]; simp [addN, this]

def zcs : Array Value := #[.int .u64 0, .int .u64 0, .int .u64 0, .int .u64 0]

set_option maxRecDepth 100000 in
set_option maxHeartbeats 2000000 in
theorem withRange_any (s : BS) (r : Nat × Nat) (h1 : r.1 < 256) (h2 : r.2 < 256) (w : World) :
    Calls Tryd.prog 41 #[vset s, .agg #[.int .u8 r.1, .int .u8 r.2]] w fun e w' => e = .returned (vset (addR s r)) ∧ Below w.heap.size w w' := by
  obtain ⟨f, t⟩ := r
  dsimp only at h1 h2 ⊢
  have HR : Hid (∀ n, t + 1 - f = n → addN s f n = addR s (f, t)) := fun n h => by subst h; rfl
  unfold vset
  go_enter Tryd.func41, Tryd.ntmps41
  go_wp2
  go_loopw [5] (fun i wr => ∃ b n : Nat, i = .int .i64 b ∧ Hid (b = f + n) ∧ b ≤ 256 ∧ Hid (b ≤ t + 1 ∨ n = 0) ∧ Hid (Blk wr w.heap.size 29 (cset (addN s f n))) ∧ Hid (Blk wr (w.heap.size + 1) 26 #[.int .u8 f, .int .u8 t]) ∧ Hid (Blk wr (w.heap.size + 1 + 1) 29 zcs) ∧ Hid (Below w.heap.size w wr))
    (fun i _ => 300 - (intOf i).toNat)
  case atStart =>
    refine ⟨f, 0, rfl, rfl, by omega, .inr rfl, ?_, ?_, ?_, ?_⟩
    · exact ((Blk.new w 29 _).alloc _).alloc _
    · have := (Blk.new (w.alloc (.cells #[.int .u64 (wdI s 0), .int .u64 (wdI s 1), .int .u64 (wdI s 2), .int .u64 (wdI s 3)] 29)) 26 #[.int .u8 f, .int .u8 t]).alloc (.cells #[.int .u64 0, .int .u64 0, .int .u64 0, .int .u64 0] 29)
      rw [World.size_alloc] at this
      exact this
    · have := Blk.new ((w.alloc (.cells #[.int .u64 (wdI s 0), .int .u64 (wdI s 1), .int .u64 (wdI s 2), .int .u64 (wdI s 3)] 29)).alloc (.cells #[.int .u8 f, .int .u8 t] 26)) 29 #[.int .u64 0, .int .u64 0, .int .u64 0, .int .u64 0]
      rw [World.size_alloc, World.size_alloc] at this
      exact this
    · exact (((Below.refl _ w).alloc (Nat.le_refl _) _).alloc (by simp) _).alloc (by simp; omega) _
  case round =>
    obtain ⟨b, n, rfl, hb, hb2, hn, hA, hR, hZ, hB⟩ := hrel
    have c0 : wr.cell? ⟨w.heap.size, 0, none⟩ = some (.int .u64 (wdI (addN s f n) 0)) := hA.out.cell 0
    have c1 : wr.cell? ⟨w.heap.size, 1, none⟩ = some (.int .u64 (wdI (addN s f n) 1)) := hA.out.cell 1
    have c2 : wr.cell? ⟨w.heap.size, 2, none⟩ = some (.int .u64 (wdI (addN s f n) 2)) := hA.out.cell 2
    have c3 : wr.cell? ⟨w.heap.size, 3, none⟩ = some (.int .u64 (wdI (addN s f n) 3)) := hA.out.cell 3
    have f0 : ∀ i, wr.frozen? ⟨w.heap.size, i, none⟩ = false := hA.out.frozen
    have r0 : wr.cell? ⟨w.heap.size + 1, 0, none⟩ = some (.int .u8 f) := hR.out.cell 0
    have r1 : wr.cell? ⟨w.heap.size + 1, 1, none⟩ = some (.int .u8 t) := hR.out.cell 1
    by_cases hle : b ≤ t
    · have hw : b < 256 := by omega
      have HW := Lib.hid (with_any (addN s f n) b hw)
      have hlt : w.heap.size + 2 < wr.heap.size := hZ.out.lt
      go_wp2_with fail
      refine (HW.out wr).mono ?_
      rintro e w1 ⟨rfl, hB1⟩
      have HN : Hid (withB (addN s f n) b = addN s f (n + 1)) := by rw [hb.out]; rfl
      have hA1 := Lib.hid (hA.out.below hB1 (by omega))
      have hR1 := Lib.hid (hR.out.below hB1 (by omega))
      have hZ1 := Lib.hid (hZ.out.below hB1 (by omega))
      have hBB := Lib.hid (hB.out.trans (hB1.mono hB.out.size))
      clear hA hR hZ hB hB1 c0 c1 c2 c3 f0 r0 r1 HW
      have c0 : w1.cell? ⟨w.heap.size, 0, none⟩ = some (.int .u64 (wdI (addN s f n) 0)) := hA1.out.cell 0
      have c1 : w1.cell? ⟨w.heap.size, 1, none⟩ = some (.int .u64 (wdI (addN s f n) 1)) := hA1.out.cell 1
      have c2 : w1.cell? ⟨w.heap.size, 2, none⟩ = some (.int .u64 (wdI (addN s f n) 2)) := hA1.out.cell 2
      have c3 : w1.cell? ⟨w.heap.size, 3, none⟩ = some (.int .u64 (wdI (addN s f n) 3)) := hA1.out.cell 3
      have f0 : ∀ i, w1.frozen? ⟨w.heap.size, i, none⟩ = false := hA1.out.frozen
      rw [HN.out]
      unfold vset
      go_wp2
      go_roundw
      case rel =>
        refine ⟨b + 1, n + 1, by go_num, by rw [hb.out]; rfl, by omega, .inl (by omega), ?_, ?_, ?_, ?_⟩
        · exact hA1.out.set4 _ _ _ _
        · exact (((hR1.out.other (by simp) _).other (by simp) _).other (by simp) _).other (by simp) _
        · exact (((hZ1.out.other (by simp; omega) _).other (by simp; omega) _).other (by simp; omega) _).other (by simp; omega) _
        · exact below_set4 hBB.out (Nat.le_refl _) _ _ _ _
      case measure => simp [intOf]; omega
    · have hEq : addN s f n = addR s (f, t) := HR.out n (by have := hb.out; have := hn.out; omega)
      have z0 : wr.cell? ⟨w.heap.size + 1 + 1, 0, none⟩ = some (.int .u64 0) := hZ.out.cell 0
      have z1 : wr.cell? ⟨w.heap.size + 1 + 1, 1, none⟩ = some (.int .u64 0) := hZ.out.cell 1
      have z2 : wr.cell? ⟨w.heap.size + 1 + 1, 2, none⟩ = some (.int .u64 0) := hZ.out.cell 2
      have z3 : wr.cell? ⟨w.heap.size + 1 + 1, 3, none⟩ = some (.int .u64 0) := hZ.out.cell 3
      have g0 : ∀ i, wr.frozen? ⟨w.heap.size + 1 + 1, i, none⟩ = false := hZ.out.frozen
      rw [hEq] at c0 c1 c2 c3
      go_wp2
      have hb2 := Blk.set4 hZ.out (.int .u64 (wdI (addR s (f, t)) 0)) (.int .u64 (wdI (addR s (f, t)) 1)) (.int .u64 (wdI (addR s (f, t)) 2)) (.int .u64 (wdI (addR s (f, t)) 3))
      have d0 := hb2.cell 0
      have d1 := hb2.cell 1
      have d2 := hb2.cell 2
      have d3 := hb2.cell 3
      refine bodyPost_ret (v := .agg #[.int .u64 (wdI (addR s (f, t)) 0), .int .u64 (wdI (addR s (f, t)) 1), .int .u64 (wdI (addR s (f, t)) 2), .int .u64 (wdI (addR s (f, t)) 3)]) (by simp [results, Tryd.results41, go_sem, d0, d1, d2, d3]) rfl ⟨rfl, ?_⟩
      exact below_set4 hB.out (by omega) _ _ _ _
end Go.Proofs.YtegmoeeeomjkgaaDoor
end
section
namespace Go.Proofs.YtegmoeeeomjkgaaDoor
open Go Go.RowKit

/-- Ranges as they lie behind a slice. -/
def RowR (w : World) (a : Option Addr) (rs : List (Nat × Nat)) : Prop :=
  ∀ (i : Nat) (x : Nat × Nat), rs[i]? = some x → ∃ b off, a = some ⟨b, off, none⟩ ∧ w.cell? ⟨b, off + i * 2, none⟩ = some (.int .u8 x.1) ∧ w.cell? ⟨b, off + i * 2 + 1, none⟩ = some (.int .u8 x.2)
def SmallR (rs : List (Nat × Nat)) : Prop := ∀ x ∈ rs, x.1 < 256 ∧ x.2 < 256

theorem lt_of_cell {w : World} {b i : Nat} {v : Value} (h : w.cell? ⟨b, i, none⟩ = some v) : b < w.heap.size := by
  unfold World.cell? at h
  by_cases hb : b < w.heap.size
  · exact hb
  · simp [Array.getElem?_eq_none (Nat.le_of_not_lt hb)] at h

theorem RowR.below {w w' : World} {a : Option Addr} {rs : List (Nat × Nat)} {n : Nat} (h : RowR w a rs) (hB : Below n w w') (hn : w.heap.size ≤ n) : RowR w' a rs := by
  intro i x hx
  obtain ⟨b, off, e, h1, h2⟩ := h i x hx
  have := lt_of_cell h1
  exact ⟨b, off, e, (hB.cell (p := ⟨b, _, none⟩) (show b < n by omega)).trans h1, (hB.cell (p := ⟨b, _, none⟩) (show b < n by omega)).trans h2⟩

/-- What the ranges make together; none where one is wrong. -/
def makeR (s : BS) : List (Nat × Nat) → Option BS
  | [] => some s
  | r :: rs => if r.2 < r.1 then none else makeR (addR s r) rs

theorem makeR_snoc (s : BS) (rs : List (Nat × Nat)) (r : Nat × Nat) (u : BS) (h : makeR s rs = some u) : makeR s (rs ++ [r]) = if r.2 < r.1 then none else some (addR u r) := by
  induction rs generalizing s with
  | nil => simp only [makeR, Option.some.injEq] at h; subst h; simp [makeR]
  | cons x rs ih =>
    simp only [makeR, List.cons_append] at h ⊢
    split at h
    · cases h
    · rename_i hx; rw [if_neg hx]; exact ih _ h

theorem makeR_none (s : BS) (rs qs : List (Nat × Nat)) (h : makeR s rs = none) : makeR s (rs ++ qs) = none := by
  induction rs generalizing s with
  | nil => simp [makeR] at h
  | cons x rs ih =>
    simp only [makeR, List.cons_append] at h ⊢
    split at h
    · rename_i hx; rw [if_pos hx]
    · rename_i hx; rw [if_neg hx]; exact ih _ h

/-- Make's answer. -/
def makeV (rs : List (Nat × Nat)) : Value :=
  match makeR 0#256 rs with
  | some s => .tuple #[vset s, .int .i64 0]
  | none => .tuple #[vset 0#256, .int .i64 4]

theorem below_at {n m : Nat} {w W : World} (h : Below n w W) (hm : m ≤ n) : Below m w W := h.mono hm

set_option maxRecDepth 100000 in
set_option maxHeartbeats 4000000 in
theorem make_any (a : Option Addr) (cap : Nat) (rs : List (Nat × Nat)) (w : World) (hd : RowR w a rs) (hs : SmallR rs) (hl : rs.length ≤ 281474976710656) :
    Calls Tryd.prog 11 #[.slice a rs.length cap] w fun e w' => e = .returned (makeV rs) ∧ Below w.heap.size w w' := by
  have HD := Lib.hid hd
  have HZ := Lib.hid vset_zero
  clear hd
  go_enter Tryd.func11, Tryd.ntmps11
  go_wp2
  go_loopw [9] (fun i wr => ∃ (k : Nat) (u : BS), i = .int .i64 k ∧ k ≤ rs.length ∧ Hid (makeR 0#256 (rs.take k) = some u) ∧ Hid (Blk wr w.heap.size 29 zcs) ∧ Hid (Blk wr (w.heap.size + 1) 29 (cset u)) ∧ Hid (Below w.heap.size w wr))
    (fun i _ => rs.length - (intOf i).toNat)
  case atStart =>
    refine ⟨0, 0#256, rfl, Nat.zero_le _, rfl, ?_, ?_, ?_⟩
    · exact (Blk.new w 29 zcs).alloc _
    · have h := Blk.new (w.alloc (.cells #[.int .u64 0, .int .u64 0, .int .u64 0, .int .u64 0] 29)) 29 #[.int .u64 0, .int .u64 0, .int .u64 0, .int .u64 0]
      rw [World.size_alloc] at h
      have e : cset 0#256 = zcs := by
        have h : ∀ i, i < 4 → wdI 0#256 i = 0 := by decide
        unfold cset zcs; rw [h 0 (by omega), h 1 (by omega), h 2 (by omega), h 3 (by omega)]
      rw [e]
      exact h
    · exact ((Below.refl _ w).alloc (Nat.le_refl _) _).alloc (by simp) _
  case round =>
    obtain ⟨k, u, rfl, hk, hm, hZ, hU, hB⟩ := hrel
    by_cases hlt : k < rs.length
    · have HX : Hid (rs[k]? = some rs[k]) := Lib.hid (List.getElem?_eq_getElem hlt)
      obtain ⟨x1, x2⟩ := hs rs[k] (List.getElem_mem hlt)
      obtain ⟨x, hx⟩ : ∃ x, rs[k] = x := ⟨_, rfl⟩
      rw [hx] at HX x1 x2
      have HMs : Hid (makeR 0#256 (rs.take (k + 1)) = if x.2 < x.1 then none else some (addR u x)) := by
        refine Lib.hid ?_
        rw [List.take_add_one, HX.out]; exact makeR_snoc _ _ _ _ hm.out
      clear hx
      obtain ⟨f, t⟩ := x
      dsimp only at x1 x2
      obtain ⟨b, off, rfl, e1, e2⟩ := HD.out k _ HX.out
      have bl : b < w.heap.size := lt_of_cell e1
      have r1 : wr.cell? ⟨b, off + k * 2, none⟩ = some (.int .u8 f) := (hB.out.cell (p := ⟨b, _, none⟩) bl).trans e1
      have r2 : wr.cell? ⟨b, off + k * 2 + 1, none⟩ = some (.int .u8 t) := (hB.out.cell (p := ⟨b, _, none⟩) bl).trans e2
      clear e1 e2
      by_cases hft : t < f
      · have z0 : ∀ o, (wr.alloc o).cell? ⟨w.heap.size, 0, none⟩ = some (.int .u64 0) := fun o => (Blk.alloc hZ.out o).cell 0
        have z1 : ∀ o, (wr.alloc o).cell? ⟨w.heap.size, 1, none⟩ = some (.int .u64 0) := fun o => (Blk.alloc hZ.out o).cell 1
        have z2 : ∀ o, (wr.alloc o).cell? ⟨w.heap.size, 2, none⟩ = some (.int .u64 0) := fun o => (Blk.alloc hZ.out o).cell 2
        have z3 : ∀ o, (wr.alloc o).cell? ⟨w.heap.size, 3, none⟩ = some (.int .u64 0) := fun o => (Blk.alloc hZ.out o).cell 3
        have fz : ∀ o i, (wr.alloc o).frozen? ⟨w.heap.size, i, none⟩ = false := fun o => (Blk.alloc hZ.out o).frozen
        have HV : makeV rs = .tuple #[.agg #[.int .u64 0, .int .u64 0, .int .u64 0, .int .u64 0], .int .i64 4] := by
          have h1 := HMs.out
          rw [if_pos hft] at h1
          have h2 := makeR_none _ _ (rs.drop (k + 1)) h1
          rw [List.take_append_drop] at h2
          unfold makeV; rw [h2, HZ.out]
        go_wp2
        have y := Blk.set4 (Blk.alloc hZ.out (.cells #[.int .u8 f, .int .u8 t] 26)) (.int .u64 0) (.int .u64 0) (.int .u64 0) (.int .u64 0)
        have y0 := y.cell 0
        have y1 := y.cell 1
        have y2 := y.cell 2
        have y3 := y.cell 3
        refine bodyPost_ret (v := .tuple #[.agg #[.int .u64 0, .int .u64 0, .int .u64 0, .int .u64 0], .int .i64 4]) (by simp [results, Tryd.results11, go_sem, y0, y1, y2, y3]) rfl ⟨by first | rfl | rw [HV], ?_⟩
        exact below_set4 (hB.out.alloc hB.out.size _) (Nat.le_refl _) _ _ _ _
      · have c0 : ∀ o, (wr.alloc o).cell? ⟨(w.heap.size + 1), 0, none⟩ = some (.int .u64 (wdI (u) 0)) := fun o => (Blk.alloc hU.out o).cell 0
        have c1 : ∀ o, (wr.alloc o).cell? ⟨(w.heap.size + 1), 1, none⟩ = some (.int .u64 (wdI (u) 1)) := fun o => (Blk.alloc hU.out o).cell 1
        have c2 : ∀ o, (wr.alloc o).cell? ⟨(w.heap.size + 1), 2, none⟩ = some (.int .u64 (wdI (u) 2)) := fun o => (Blk.alloc hU.out o).cell 2
        have c3 : ∀ o, (wr.alloc o).cell? ⟨(w.heap.size + 1), 3, none⟩ = some (.int .u64 (wdI (u) 3)) := fun o => (Blk.alloc hU.out o).cell 3
        have HW := Lib.hid (withRange_any u (f, t) x1 x2)
        have hlt2 : w.heap.size + 1 < wr.heap.size := hU.out.lt
        go_wp2_with fail
        refine (HW.out _).mono ?_
        rintro e w1 ⟨rfl, hB1⟩
        have hZ1 := Lib.hid ((hZ.out.alloc (.cells #[.int .u8 f, .int .u8 t] 26)).below hB1 (by simp; omega))
        have hU1 := Lib.hid ((hU.out.alloc (.cells #[.int .u8 f, .int .u8 t] 26)).below hB1 (by simp; omega))
        have hBB := Lib.hid ((hB.out.alloc hB.out.size (.cells #[.int .u8 f, .int .u8 t] 26)).trans (hB1.mono (by have := hB.out.size; simp; omega)))
        clear hZ hU hB hB1 c0 c1 c2 c3 HW r1 r2
        have c0 : w1.cell? ⟨(w.heap.size + 1), 0, none⟩ = some (.int .u64 (wdI (u) 0)) := Blk.cell hU1.out 0
        have c1 : w1.cell? ⟨(w.heap.size + 1), 1, none⟩ = some (.int .u64 (wdI (u) 1)) := Blk.cell hU1.out 1
        have c2 : w1.cell? ⟨(w.heap.size + 1), 2, none⟩ = some (.int .u64 (wdI (u) 2)) := Blk.cell hU1.out 2
        have c3 : w1.cell? ⟨(w.heap.size + 1), 3, none⟩ = some (.int .u64 (wdI (u) 3)) := Blk.cell hU1.out 3
        have fz : ∀ i, w1.frozen? ⟨(w.heap.size + 1), i, none⟩ = false := Blk.frozen hU1.out
        unfold vset
        go_wp2
        go_roundw
        case rel =>
          refine ⟨k + 1, addR u (f, t), by go_num, by omega, ?_, ?_, ?_, ?_⟩
          · refine Lib.hid ?_
            rw [HMs.out, if_neg hft]
          · exact (((hZ1.out.other (by simp) _).other (by simp) _).other (by simp) _).other (by simp) _
          · exact hU1.out.set4 _ _ _ _
          · exact below_set4 hBB.out (by omega) _ _ _ _
        case measure => simp [intOf]; omega
    · obtain rfl : k = rs.length := by omega
      have c0 : wr.cell? ⟨(w.heap.size + 1), 0, none⟩ = some (.int .u64 (wdI (u) 0)) := Blk.cell hU.out 0
      have c1 : wr.cell? ⟨(w.heap.size + 1), 1, none⟩ = some (.int .u64 (wdI (u) 1)) := Blk.cell hU.out 1
      have c2 : wr.cell? ⟨(w.heap.size + 1), 2, none⟩ = some (.int .u64 (wdI (u) 2)) := Blk.cell hU.out 2
      have c3 : wr.cell? ⟨(w.heap.size + 1), 3, none⟩ = some (.int .u64 (wdI (u) 3)) := Blk.cell hU.out 3
      have z0 : wr.cell? ⟨w.heap.size, 0, none⟩ = some (.int .u64 0) := Blk.cell hZ.out 0
      have z1 : wr.cell? ⟨w.heap.size, 1, none⟩ = some (.int .u64 0) := Blk.cell hZ.out 1
      have z2 : wr.cell? ⟨w.heap.size, 2, none⟩ = some (.int .u64 0) := Blk.cell hZ.out 2
      have z3 : wr.cell? ⟨w.heap.size, 3, none⟩ = some (.int .u64 0) := Blk.cell hZ.out 3
      have fz : ∀ i, wr.frozen? ⟨w.heap.size, i, none⟩ = false := Blk.frozen hZ.out
      have HV : makeV rs = .tuple #[.agg #[.int .u64 (wdI u 0), .int .u64 (wdI u 1), .int .u64 (wdI u 2), .int .u64 (wdI u 3)], .int .i64 0] := by
        have h1 := hm.out
        rw [List.take_length] at h1
        unfold makeV; rw [h1]; rfl
      go_wp2
      have y := Blk.set4 hZ.out (.int .u64 (wdI (u) 0)) (.int .u64 (wdI (u) 1)) (.int .u64 (wdI (u) 2)) (.int .u64 (wdI (u) 3))
      have y0 := y.cell 0
      have y1 := y.cell 1
      have y2 := y.cell 2
      have y3 := y.cell 3
      refine bodyPost_ret (v := .tuple #[.agg #[.int .u64 (wdI u 0), .int .u64 (wdI u 1), .int .u64 (wdI u 2), .int .u64 (wdI u 3)], .int .i64 0]) (by simp [results, Tryd.results11, go_sem, y0, y1, y2, y3]) rfl ⟨by first | rfl | rw [HV], ?_⟩
      exact below_set4 hB.out (Nat.le_refl _) _ _ _ _
end Go.Proofs.YtegmoeeeomjkgaaDoor
end
section
/-
  DERIVED: THE SHELF's CONTRACTS AT THIS DUMP, IN PLAIN WORDS (tools/lay-plain.mjs out of 'YtegmoeeeomjkgaaDoorLib.lean', which tools/lay-shelf.mjs wrote): THE SAME DECLARATIONS UNDER THE SAME NAMES: 'import', 'namespace', 'open', 'def', 'theorem' AND NOTHING ELSE: no command of the shelf's: FOR A HAND-IN. Each laying: the table of numbers ('.._ren') and one theorem, a field a fact of the dump's own or the kernel's comparison; each contract: ONE APPLICATION.
-/
namespace Go.Proofs
open Go.Shelf
def Tryd.lays137_ren : Go.Shelf.Ren := ⟨fun | 137 => 83 | 217 => 91 | 266 => 99 | n => n, fun | 9 => 9 | 5 => 5 | 3 => 3 | n => n, fun | n => n⟩
theorem Tryd.lays137 : Go.Proofs.Lays.n137 Tryd.prog Tryd.lays137_ren := {
  mixed := by kernel_rfl
  f137 := Tryd.func83.trans (congrArg some (by kernel_rfl))
  f217 := Tryd.func91.trans (congrArg some (by kernel_rfl))
  f266 := Tryd.func99.trans (congrArg some (by kernel_rfl))
  t3 := Tryd.underlying3
  a3 := Tryd.isAgg3
  z3 := Tryd.sizeOf3
  v3 := Tryd.zeroValue3
  t5 := Tryd.underlying5
  a5 := Tryd.isAgg5
  z5 := Tryd.sizeOf5
  v5 := Tryd.zeroValue5
  t9 := Tryd.underlying9
  a9 := Tryd.isAgg9
  z9 := Tryd.sizeOf9
  v9 := Tryd.zeroValue9 }
open Go.RowKit in
/-- strings.IndexByte: "IndexByte returns the index of the first instance of c in s, or -1 if c is not present in s.": IT RETURNS 'Lib.indexByte s c'; the world is as it was. (LAID: no walk: one application.) -/
theorem Tryd.strings_IndexByte (s : ByteArray) (c : Int) (w : World) :
    Calls Tryd.prog 83 #[.string s, .int .u8 c] w fun e w' => e = .returned (.int .i64 (Lib.indexByte s.data.toList c.toNat.toUInt8)) ∧ w' = w := Any.strings_IndexByte Tryd.lays137 s c w
def Tryd.lays103_ren : Go.Shelf.Ren := ⟨fun | 103 => 52 | 210 => 61 | 206 => 69 | n => n, fun | 9 => 9 | 4 => 4 | 24 => 83 | 3 => 3 | n => n, fun | n => n⟩
theorem Tryd.lays103 : Go.Proofs.Lays.n103 Tryd.prog Tryd.lays103_ren := {
  mixed := by kernel_rfl
  f103 := Tryd.func52.trans (congrArg some (by kernel_rfl))
  f206 := Tryd.func69.trans (congrArg some (by kernel_rfl))
  f210 := Tryd.func61.trans (congrArg some (by kernel_rfl))
  t3 := Tryd.underlying3
  a3 := Tryd.isAgg3
  z3 := Tryd.sizeOf3
  v3 := Tryd.zeroValue3
  t4 := Tryd.underlying4
  a4 := Tryd.isAgg4
  z4 := Tryd.sizeOf4
  v4 := Tryd.zeroValue4
  t9 := Tryd.underlying9
  a9 := Tryd.isAgg9
  z9 := Tryd.sizeOf9
  v9 := Tryd.zeroValue9
  t24 := Tryd.underlying83
  a24 := Tryd.isAgg83
  z24 := Tryd.sizeOf83
  v24 := Tryd.zeroValue83 }
open Go.RowKit in
/-- strings.CutPrefix: "CutPrefix returns s without the provided leading prefix string and reports whether it found the prefix. If s doesn't start with prefix, CutPrefix returns s, false. If prefix is the empty string, CutPrefix returns s, true.": IT RETURNS '(Lib.trimPrefix s p, Lib.hasPrefix s p)'; the world is as it was. (LAID: no walk: one application.) -/
theorem Tryd.strings_CutPrefix (s p : ByteArray) (w : World) :
    Calls Tryd.prog 52 #[.string s, .string p] w fun e w' => e = .returned (.tuple #[.string ⟨(Lib.trimPrefix s.data.toList p.data.toList).toArray⟩, .bool (Lib.hasPrefix s.data.toList p.data.toList)]) ∧ w' = w := Any.strings_CutPrefix Tryd.lays103 s p w
def Tryd.laysC245_ren : Go.Shelf.Ren := ⟨fun | 245 => 90 | 279 => 95 | 280 => 96 | 281 => 97 | 282 => 98 | 316 => 100 | 171 => 102 | 205 => 101 | 243 => 103 | 246 => 104 | 283 => 105 | 284 => 106 | 285 => 107 | 286 => 108 | 129 => 81 | 317 => 109 | 318 => 110 | 319 => 111 | 320 => 112 | 337 => 113 | 338 => 46 | n => n, fun | 9 => 9 | 3 => 3 | 75 => 115 | 167 => 128 | 4 => 4 | 168 => 131 | 210 => 136 | 37 => 23 | 0 => 0 | 127 => 139 | 145 => 142 | 143 => 140 | 2 => 2 | 171 => 144 | 53 => 27 | 5 => 5 | 173 => 146 | 212 => 150 | 51 => 113 | 20 => 20 | 213 => 151 | 46 => 91 | 232 => 153 | 233 => 92 | 80 => 154 | n => n, fun | 15 => 1 | 16 => 2 | 17 => 4 | 18 => 5 | 19 => 0 | n => n⟩
theorem Tryd.laysC245 : Go.Proofs.LaysC.n245 Tryd.prog Tryd.laysC245_ren := {
  mixed := by kernel_rfl
  f129 := Tryd.func81.trans (congrArg some (by kernel_rfl))
  f171 := Tryd.func102.trans (congrArg some (by kernel_rfl))
  f205 := Tryd.func101.trans (congrArg some (by kernel_rfl))
  f243 := Tryd.func103.trans (congrArg some (by kernel_rfl))
  f245 := Tryd.func90.trans (congrArg some (by kernel_rfl))
  f246 := Tryd.func104.trans (congrArg some (by kernel_rfl))
  f279 := Tryd.func95.trans (congrArg some (by kernel_rfl))
  f280 := Tryd.func96.trans (congrArg some (by kernel_rfl))
  f281 := Tryd.func97.trans (congrArg some (by kernel_rfl))
  f282 := Tryd.func98.trans (congrArg some (by kernel_rfl))
  f283 := Tryd.func105.trans (congrArg some (by kernel_rfl))
  f284 := Tryd.func106.trans (congrArg some (by kernel_rfl))
  f285 := Tryd.func107.trans (congrArg some (by kernel_rfl))
  f286 := Tryd.func108.trans (congrArg some (by kernel_rfl))
  f316 := Tryd.func100.trans (congrArg some (by kernel_rfl))
  f317 := Tryd.func109.trans (congrArg some (by kernel_rfl))
  f318 := Tryd.func110.trans (congrArg some (by kernel_rfl))
  f319 := Tryd.func111.trans (congrArg some (by kernel_rfl))
  f320 := Tryd.func112.trans (congrArg some (by kernel_rfl))
  f337 := Tryd.func113.trans (congrArg some (by kernel_rfl))
  f338 := Tryd.func46.trans (congrArg some (by kernel_rfl))
  t0 := Tryd.underlying0
  a0 := Tryd.isAgg0
  z0 := Tryd.sizeOf0
  v0 := Tryd.zeroValue0
  t2 := Tryd.underlying2
  a2 := Tryd.isAgg2
  z2 := Tryd.sizeOf2
  v2 := Tryd.zeroValue2
  t3 := Tryd.underlying3
  a3 := Tryd.isAgg3
  z3 := Tryd.sizeOf3
  v3 := Tryd.zeroValue3
  t4 := Tryd.underlying4
  a4 := Tryd.isAgg4
  z4 := Tryd.sizeOf4
  v4 := Tryd.zeroValue4
  t5 := Tryd.underlying5
  a5 := Tryd.isAgg5
  z5 := Tryd.sizeOf5
  v5 := Tryd.zeroValue5
  t9 := Tryd.underlying9
  a9 := Tryd.isAgg9
  z9 := Tryd.sizeOf9
  v9 := Tryd.zeroValue9
  t20 := Tryd.underlying20
  a20 := Tryd.isAgg20
  z20 := Tryd.sizeOf20
  v20 := Tryd.zeroValue20
  t37 := Tryd.underlying23
  a37 := Tryd.isAgg23
  z37 := Tryd.sizeOf23
  v37 := Tryd.zeroValue23
  t46 := Tryd.underlying91
  a46 := Tryd.isAgg91
  z46 := Tryd.sizeOf91
  v46 := Tryd.zeroValue91
  t51 := Tryd.underlying113
  a51 := Tryd.isAgg113
  z51 := Tryd.sizeOf113
  v51 := Tryd.zeroValue113
  t53 := Tryd.underlying27
  a53 := Tryd.isAgg27
  z53 := Tryd.sizeOf27
  v53 := Tryd.zeroValue27
  t75 := Tryd.underlying115
  a75 := Tryd.isAgg115
  z75 := Tryd.sizeOf115
  v75 := Tryd.zeroValue115
  t127 := Tryd.underlying139
  a127 := Tryd.isAgg139
  z127 := Tryd.sizeOf139
  v127 := Tryd.zeroValue139
  t143 := Tryd.underlying140
  a143 := Tryd.isAgg140
  z143 := Tryd.sizeOf140
  v143 := Tryd.zeroValue140
  t145 := Tryd.underlying142
  a145 := Tryd.isAgg142
  z145 := Tryd.sizeOf142
  v145 := Tryd.zeroValue142
  t167 := Tryd.underlying128
  a167 := Tryd.isAgg128
  z167 := Tryd.sizeOf128
  v167 := Tryd.zeroValue128
  t168 := Tryd.underlying131
  a168 := Tryd.isAgg131
  z168 := Tryd.sizeOf131
  v168 := Tryd.zeroValue131
  t171 := Tryd.underlying144
  a171 := Tryd.isAgg144
  z171 := Tryd.sizeOf144
  v171 := Tryd.zeroValue144
  t173 := Tryd.underlying146
  a173 := Tryd.isAgg146
  z173 := Tryd.sizeOf146
  v173 := Tryd.zeroValue146
  t210 := Tryd.underlying136
  a210 := Tryd.isAgg136
  z210 := Tryd.sizeOf136
  v210 := Tryd.zeroValue136
  t212 := Tryd.underlying150
  a212 := Tryd.isAgg150
  z212 := Tryd.sizeOf150
  v212 := Tryd.zeroValue150
  t213 := Tryd.underlying151
  a213 := Tryd.isAgg151
  z213 := Tryd.sizeOf151
  t232 := Tryd.underlying153
  a232 := Tryd.isAgg153
  z232 := Tryd.sizeOf153
  v232 := Tryd.zeroValue153
  t233 := Tryd.underlying92
  a233 := Tryd.isAgg92
  z233 := Tryd.sizeOf92
  v233 := Tryd.zeroValue92
  g15 := by kernel_rfl
  g16 := by kernel_rfl
  g17 := by kernel_rfl
  g18 := by kernel_rfl
  g19 := by kernel_rfl
  t80 := Tryd.underlying154
  a80 := Tryd.isAgg154
  z80 := Tryd.sizeOf154
  v80 := Tryd.zeroValue154
  i0 := by kernel_rfl
  i2 := by kernel_rfl
  i3 := by kernel_rfl
  i4 := by kernel_rfl
  i5 := by kernel_rfl
  i9 := by kernel_rfl
  i20 := by kernel_rfl
  i37 := by kernel_rfl
  i46 := by kernel_rfl
  i51 := by kernel_rfl
  i53 := by kernel_rfl
  i75 := by kernel_rfl
  i80 := by kernel_rfl
  i127 := by kernel_rfl
  i143 := by kernel_rfl
  i145 := by kernel_rfl
  i167 := by kernel_rfl
  i168 := by kernel_rfl
  i171 := by kernel_rfl
  i173 := by kernel_rfl
  i210 := by kernel_rfl
  i212 := by kernel_rfl
  i232 := by kernel_rfl
  i233 := by kernel_rfl
  m15 := by kernel_rfl
  m16 := by kernel_rfl
  m17 := by kernel_rfl
  m18 := by kernel_rfl
  m19 := by kernel_rfl
  c0 := by kernel_rfl
  c2 := by kernel_rfl
  c3 := by kernel_rfl
  c4 := by kernel_rfl
  c5 := by kernel_rfl
  c9 := by kernel_rfl
  c20 := by kernel_rfl
  c37 := by kernel_rfl
  c46 := by kernel_rfl
  c51 := by kernel_rfl
  c53 := by kernel_rfl
  c75 := by kernel_rfl
  c80 := by kernel_rfl
  c127 := by kernel_rfl
  c143 := by kernel_rfl
  c145 := by kernel_rfl
  c167 := by kernel_rfl
  c168 := by kernel_rfl
  c171 := by kernel_rfl
  c173 := by kernel_rfl
  c210 := by kernel_rfl
  c212 := by kernel_rfl
  c213 := by kernel_rfl
  c232 := by kernel_rfl
  c233 := by kernel_rfl }
open Go.RowKit in
/-- strconv.toError, at the inner package's ErrSyntax: 'syntaxError(fn, s)' as an error: A *NumError IN A NEW BLOCK. (LAID: no walk: one application.) -/
theorem Tryd.strconv_toError_syntax (fn s : ByteArray) (base bits : Int) (ev : Value) (w : World) (hlim : s.size ≤ 281474976710656) (hv : w.cell? ⟨1, 0, none⟩ = some ev) (hev : ev = .nilIface ∨ ∃ te pe, ev = .iface te pe) :
    Calls Tryd.prog 90 #[.string fn, .string s, .int .i64 base, .int .i64 bits, .iface 128 (.int .i64 2)] w fun e w' => ∃ N, e = .returned (.iface 131 (.pointer (some ⟨N, 0, none⟩))) ∧ w.heap.size ≤ N ∧ w'.heap[N]? = some (.cells #[.string fn, .string s, ev] 136 (0, 0)) ∧ Below w.heap.size w w' := Any.strconv_toError_syntax Tryd.laysC245 fn s base bits ev w hlim hv hev
def Tryd.lays321_ren : Go.Shelf.Ren := ⟨fun | 321 => 93 | n => n, fun | 5 => 5 | n => n, fun | n => n⟩
theorem Tryd.lays321 : Go.Proofs.Lays.n321 Tryd.prog Tryd.lays321_ren := {
  mixed := by kernel_rfl
  f321 := Tryd.func93.trans (congrArg some (by kernel_rfl))
  t5 := Tryd.underlying5
  a5 := Tryd.isAgg5
  z5 := Tryd.sizeOf5
  v5 := Tryd.zeroValue5 }
open Go.RowKit in
/-- internal/strconv.lower: 'c | ('x' - 'X')': the bit 32 set. The world is as it was. (LAID: no walk: one application.) -/
theorem Tryd.internal_strconv_lower (c : Int) (w : World) :
    Calls Tryd.prog 93 #[.int .u8 c] w fun e w' => e = .returned (.int .u8 (bits .or .u8 c 32)) ∧ w' = w := Any.internal_strconv_lower Tryd.lays321 c w
def Tryd.lays99_ren : Go.Shelf.Ren := ⟨fun | 99 => 63 | 206 => 69 | n => n, fun | 9 => 9 | 4 => 4 | 3 => 3 | n => n, fun | n => n⟩
theorem Tryd.lays99 : Go.Proofs.Lays.n99 Tryd.prog Tryd.lays99_ren := {
  mixed := by kernel_rfl
  f99 := Tryd.func63.trans (congrArg some (by kernel_rfl))
  f206 := Tryd.func69.trans (congrArg some (by kernel_rfl))
  t3 := Tryd.underlying3
  a3 := Tryd.isAgg3
  z3 := Tryd.sizeOf3
  v3 := Tryd.zeroValue3
  t4 := Tryd.underlying4
  a4 := Tryd.isAgg4
  z4 := Tryd.sizeOf4
  v4 := Tryd.zeroValue4
  t9 := Tryd.underlying9
  a9 := Tryd.isAgg9
  z9 := Tryd.sizeOf9
  v9 := Tryd.zeroValue9 }
open Go.RowKit Go.Lib in
/-- strings.HasPrefix: "HasPrefix reports whether the string s begins with prefix.": IT RETURNS 'Lib.hasPrefix s prefix'; the world is as it was. (LAID: no walk: one application.) -/
theorem Tryd.strings_HasPrefix (s p : ByteArray) (w : World) :
    Calls Tryd.prog 63 #[.string s, .string p] w fun e w' => e = .returned (.bool (Lib.hasPrefix s.data.toList p.data.toList)) ∧ w' = w := Any.strings_HasPrefix Tryd.lays99 s p w
def Tryd.lays7n29_ren : Go.Shelf.Ren := ⟨fun | 29 => 46 | n => n, fun | 22 => 27 | 3 => 3 | 4 => 4 | 25 => 91 | 54 => 92 | 0 => 0 | 5 => 5 | n => n, fun | 1 => 0 | n => n⟩
theorem Tryd.lays7n29 : Go.Proofs.Lays7.n29 Tryd.prog Tryd.lays7n29_ren := {
  mixed := by kernel_rfl
  f29 := Tryd.func46.trans (congrArg some (by kernel_rfl))
  t0 := Tryd.underlying0
  a0 := Tryd.isAgg0
  z0 := Tryd.sizeOf0
  v0 := Tryd.zeroValue0
  i0 := by kernel_rfl
  t3 := Tryd.underlying3
  a3 := Tryd.isAgg3
  z3 := Tryd.sizeOf3
  v3 := Tryd.zeroValue3
  i3 := by kernel_rfl
  t4 := Tryd.underlying4
  a4 := Tryd.isAgg4
  z4 := Tryd.sizeOf4
  v4 := Tryd.zeroValue4
  i4 := by kernel_rfl
  t5 := Tryd.underlying5
  a5 := Tryd.isAgg5
  z5 := Tryd.sizeOf5
  v5 := Tryd.zeroValue5
  i5 := by kernel_rfl
  t22 := Tryd.underlying27
  a22 := Tryd.isAgg27
  z22 := Tryd.sizeOf27
  v22 := Tryd.zeroValue27
  i22 := by kernel_rfl
  t25 := Tryd.underlying91
  a25 := Tryd.isAgg91
  z25 := Tryd.sizeOf91
  v25 := Tryd.zeroValue91
  i25 := by kernel_rfl
  t54 := Tryd.underlying92
  a54 := Tryd.isAgg92
  z54 := Tryd.sizeOf92
  g1 := by kernel_rfl }
open Go.RowKit in
theorem Tryd.bits_TrailingZeros64 (x : Nat) (hx : x < 18446744073709551616) (w : World) (hT : x ≠ 0 → TabAt 0 Lib.deBruijn64tab w) :
    Calls Tryd.prog 46 #[.int .u64 x] w fun e w' => e = .returned (.int .i64 (Lib.ctz 64 x)) ∧ w' = w := Any7.bits_TrailingZeros64 Tryd.lays7n29 x hx w hT
end Go.Proofs
end
section
namespace Go.Proofs.YtegmoeeeomjkgaaDoor
open Go Go.RowKit

/-- A digit to the base 16. -/
def hexD (c : Nat) : Option Nat := if 48 ≤ c ∧ c ≤ 57 then some (c - 48) else if 97 ≤ (c ||| 32) ∧ (c ||| 32) ≤ 102 then some ((c ||| 32) - 87) else none
def hexs : Nat → List UInt8 → Option Nat
  | acc, [] => some acc
  | acc, c :: l => match hexD c.toNat with
    | none => none
    | some d => hexs (acc * 16 + d) l

def hexV : Option Nat → Value
  | some n => .tuple #[.int .u64 n, .nilIface]
  | none => .tuple #[.int .u64 0, .iface 128 (.int .i64 2)]

set_option maxHeartbeats 32000000 in
set_option maxRecDepth 100000 in
theorem parseHex_any (t : ByteArray) (h2 : t.size = 2) (w : World) :
    Calls Tryd.prog 89 #[.string t, .int .i64 16, .int .i64 8] w fun e w' => e = .returned (hexV (hexs 0 t.data.toList)) ∧ Below w.heap.size w w' := by
  have hemp : t.toList.isEmpty = false := by
    rw [← decide_eq_emptyBytes]
    exact decide_eq_false (fun h => by rw [h] at h2; cases h2)
  have hcv := Lib.run_convert_string_bytes (P := Tryd.prog) w 9 23 5 t (u := .string) Tryd.underlying9 Tryd.underlying23 Tryd.underlying5
  have hB : ∀ j, j < t.size → (Lib.bytesWorld w 5 t).cell? ⟨w.heap.size, j, none⟩ = some (.int .u8 (t.data.toList.getD j 0).toNat) := fun j hj => Lib.bytesWorld_cell w 5 t j hj
  have hBel : Hid (Below w.heap.size w (Lib.bytesWorld w 5 t)) := Lib.bytesWorld_below w 5 t
  obtain ⟨W1, hW1⟩ : ∃ W1, W1 = Lib.bytesWorld w 5 t := ⟨_, rfl⟩
  rw [← hW1] at hcv hB hBel
  clear hW1
  obtain ⟨bs, hL⟩ : ∃ bs, bs = t.data.toList := ⟨_, rfl⟩
  have hLn : bs.length = t.size := by rw [hL, Lib.size_eq]
  rw [← hL] at hB ⊢
  clear hL
  go_enter Tryd.func89, Tryd.ntmps89
  go_wp2
  go_loop [12, 13, 101] (fun vu vn vi => ∃ (k acc : Nat) (a : Int), vu = .bool false ∧ vn = .int .u64 a ∧ vi = .int .i64 k ∧ k ≤ t.size ∧ Hid (a = (acc : Int) ∧ acc < 16 ^ k ∧ hexs 0 bs = hexs acc (bs.drop k)))
    (fun _ _ vi => t.size - (intOf vi).toNat)
  case atStart => exact ⟨0, 0, 0, rfl, rfl, rfl, by omega, rfl, by omega, rfl⟩
  case round =>
    obtain ⟨k, acc, a, rfl, rfl, rfl, hk, hh⟩ := hrel
    obtain ⟨ha, hacc, hdec⟩ := hh.out
    clear hh
    have hacc2 : acc < 256 ∧ (k < 2 → acc < 16) := by
      have : k = 0 ∨ k = 1 ∨ k = 2 := by omega
      rcases this with rfl | rfl | rfl <;> simp at hacc <;> omega
    obtain ⟨hacc2, hacc3⟩ := hacc2
    by_cases hkn : k < t.size
    · have hc := hB k hkn
      have hdrop : bs.drop k = bs[k]'(by omega) :: bs.drop (k + 1) := List.drop_eq_getElem_cons (by omega)
      have hget : bs.getD k 0 = bs[k]'(by omega) := by simp [List.getD, List.getElem?_eq_getElem (show k < bs.length by omega)]
      rw [hdrop] at hdec
      rw [hget] at hc
      generalize bs[k]'(by omega) = c at hc hdec
      have hc256 : c.toNat < 256 := c.toNat_lt
      have hacc4 : acc < 16 := hacc3 (by omega)
      have a0 : 0 ≤ a := by omega
      have a1 : a < 16 := by omega
      have hpow : ∀ d, d < 16 → acc * 16 + d < 16 ^ (k + 1) := by
        intro d hd
        rw [Nat.pow_succ]
        have : acc + 1 ≤ 16 ^ k := hacc
        generalize 16 ^ k = Q at this
        omega
      clear hB hdrop hget hacc3
      by_cases hdig : 48 ≤ c.toNat ∧ c.toNat ≤ 57
      · obtain ⟨hd0, hd1⟩ := hdig
        have hF : hexs acc (c :: bs.drop (k + 1)) = hexs (acc * 16 + (c.toNat - 48)) (bs.drop (k + 1)) := by simp [hexs, hexD, hd0, hd1]
        have HN : Hid (a * 16 + ((c.toNat : Int) - 48) = ((acc * 16 + (c.toNat - 48) : Nat) : Int) ∧ acc * 16 + (c.toNat - 48) < 16 ^ (k + 1) ∧ hexs 0 bs = hexs (acc * 16 + (c.toNat - 48)) (bs.drop (k + 1))) := Lib.hid ⟨by omega, hpow _ (by omega), hdec.trans hF⟩
        have iov : a * 16 + ((c.toNat : Int) - 48) < 256 := by omega
        clear hacc hacc2 hacc4 hF hdec ha hpow
        go_wp2
        exact ⟨⟨k + 1, acc * 16 + (c.toNat - 48), _, rfl, rfl, by go_num, by omega, HN⟩, by simp [intOf]; omega⟩
      · have hlow : bits .or .u8 (c.toNat : Int) 32 = ((c.toNat ||| 32 : Nat) : Int) := u8_or_nat c.toNat 32 hc256 (by omega)
        have hu : bits .or .u8 95 32 = 127 := by decide
        have hl256 : c.toNat ||| 32 < 256 := Nat.or_lt_two_pow (n := 8) (by omega) (by omega)
        have hD : hexD c.toNat = if 97 ≤ (c.toNat ||| 32) ∧ (c.toNat ||| 32) ≤ 102 then some ((c.toNat ||| 32) - 87) else none := by simp [hexD, hdig]
        have hF : hexs acc (c :: bs.drop (k + 1)) = match hexD c.toNat with | none => none | some d => hexs (acc * 16 + d) (bs.drop (k + 1)) := rfl
        rw [hD] at hF
        clear hD
        generalize c.toNat ||| 32 = lc at hlow hl256 hF
        have hdigI : ¬ (48 ≤ (c.toNat : Int) ∧ (c.toNat : Int) ≤ 57) := by omega
        by_cases hin : 97 ≤ lc ∧ lc ≤ 102
        · rw [if_pos hin] at hF
          obtain ⟨h97, h102⟩ := hin
          have h95 : ¬ (c.toNat : Int) = 95 := by
            intro h; rw [h, hu] at hlow; omega
          have HN : Hid (a * 16 + ((lc : Int) - 97 + 10) = ((acc * 16 + (lc - 87) : Nat) : Int) ∧ acc * 16 + (lc - 87) < 16 ^ (k + 1) ∧ hexs 0 bs = hexs (acc * 16 + (lc - 87)) (bs.drop (k + 1))) := Lib.hid ⟨by omega, hpow _ (by omega), hdec.trans hF⟩
          have iov : a * 16 + ((lc : Int) - 97 + 10) < 256 := by omega
          clear hacc hacc2 hacc4 hF hdec ha hpow
          by_cases h48 : 48 ≤ c.toNat
          · have h57 : ¬ c.toNat ≤ 57 := fun h => hdig ⟨h48, h⟩
            go_wp2_with (go_at_call 93; refine (Tryd.internal_strconv_lower _ _).mono ?_; rintro e w' ⟨rfl, rfl⟩)
            all_goals exact ⟨⟨k + 1, acc * 16 + (lc - 87), _, rfl, rfl, by go_num, by omega, HN⟩, by simp [intOf]; omega⟩
          · go_wp2_with (go_at_call 93; refine (Tryd.internal_strconv_lower _ _).mono ?_; rintro e w' ⟨rfl, rfl⟩)
            all_goals exact ⟨⟨k + 1, acc * 16 + (lc - 87), _, rfl, rfl, by go_num, by omega, HN⟩, by simp [intOf]; omega⟩
        · rw [if_neg hin] at hF
          have HX : hexV (hexs 0 bs) = .tuple #[.int .u64 0, .iface 128 (.int .i64 2)] := by rw [hdec, hF]; rfl
          have HX := Lib.hid HX
          clear hacc hacc2 hacc4 hF hdec ha hpow
          by_cases h48 : 48 ≤ c.toNat
          · have h57 : ¬ c.toNat ≤ 57 := fun h => hdig ⟨h48, h⟩
            go_wp2_with (go_at_call 93; refine (Tryd.internal_strconv_lower _ _).mono ?_; rintro e w' ⟨rfl, rfl⟩)
            all_goals go_ret2
            all_goals exact ⟨by first | rfl | (rw [HX.out]; rfl), hBel.out⟩
          · go_wp2_with (go_at_call 93; refine (Tryd.internal_strconv_lower _ _).mono ?_; rintro e w' ⟨rfl, rfl⟩)
            all_goals go_ret2
            all_goals exact ⟨by first | rfl | (rw [HX.out]; rfl), hBel.out⟩
    · have hkk : k = t.size := by omega
      subst hkk
      have hF : hexs acc (bs.drop t.size) = some acc := by rw [List.drop_eq_nil_of_le (by omega)]; rfl
      rw [hF] at hdec
      subst ha
      clear hacc hacc2 hacc3 hF
      go_wp2
      go_ret2
      exact ⟨rfl, hBel.out⟩
end Go.Proofs.YtegmoeeeomjkgaaDoor
end
section
namespace Go.Proofs.YtegmoeeeomjkgaaDoor
open Go Go.RowKit

/-- The bytes that have a \ ahead in a set's text. -/
def signB (b : Nat) : Bool := b == 92 || b == 91 || b == 93 || b == 45 || b == 94

theorem sign_all : ∀ b : Fin 256, decide (0 ≤ Lib.indexByte [92, 91, 93, 45, 94] b.val.toUInt8) = signB b.val := by decide +kernel

set_option maxHeartbeats 400000 in
theorem isSign_any (b : Nat) (hb : b < 256) (w : World) : Calls Tryd.prog 71 #[.int .u8 b] w fun e w' => e = .returned (.bool (signB b)) ∧ w = w' := by
  have h := sign_all ⟨b, hb⟩
  rw [← h]; clear h
  go_enter Tryd.func71, Tryd.ntmps71
  go_wp2_with (go_at_call 83; refine (Tryd.strings_IndexByte _ _ _).mono ?_; rintro e w' ⟨rfl, rfl⟩)
  go_ret
  exact ⟨by simp, rfl⟩

end Go.Proofs.YtegmoeeeomjkgaaDoor
end
section
namespace Go.Proofs.YtegmoeeeomjkgaaDoor
open Go Go.RowKit

/-- What the program's variables hold: the table, and the error of a text that is no number. -/
def Glob (w : World) : Prop := TabAt 0 Lib.deBruijn64tab w ∧ ∃ ev, w.cell? ⟨1, 0, none⟩ = some ev ∧ (ev = .nilIface ∨ ∃ te pe, ev = .iface te pe)

theorem Glob.below {w w' : World} {n : Nat} (h : Glob w) (hn : w.heap.size ≤ n) (hB : Below n w w') : Glob w' := by
  obtain ⟨h1, ev, h2, h3⟩ := h
  refine ⟨fun j hj => ?_, ev, ?_, h3⟩
  · have := h1 j hj
    exact (hB.cell (p := ⟨0, j, none⟩) (Nat.lt_of_lt_of_le (lt_of_cell this) hn)).trans this
  · exact (hB.cell (p := ⟨1, 0, none⟩) (Nat.lt_of_lt_of_le (lt_of_cell h2) hn)).trans h2

def numPost (o : Option Nat) (w : World) (e : Ending) (w' : World) : Prop :=
  Below w.heap.size w w' ∧ match o with
    | some n => e = .returned (.tuple #[.int .u64 n, .nilIface])
    | none => ∃ N, e = .returned (.tuple #[.int .u64 0, .iface 131 (.pointer (some ⟨N, 0, none⟩))])

set_option maxRecDepth 100000 in
set_option maxHeartbeats 2000000 in
theorem parseUint_any (t : ByteArray) (h2 : t.size = 2) (w : World) (hG : Glob w) :
    Calls Tryd.prog 82 #[.string t, .int .i64 16, .int .i64 8] w (numPost (hexs 0 t.data.toList) w) := by
  have HG := Lib.hid hG
  clear hG
  have HP := Lib.hid (parseHex_any t h2 w)
  obtain ⟨o, ho⟩ : ∃ o, o = hexs 0 t.data.toList := ⟨_, rfl⟩
  rw [← ho] at HP ⊢
  clear ho
  go_enter Tryd.func82, Tryd.ntmps82
  go_wp2_with fail
  refine HP.out.mono ?_
  rintro e w1 ⟨rfl, hB⟩
  have HB := Lib.hid hB
  cases o with
  | some n =>
    clear hB HP
    unfold hexV
    go_wp2
    go_ret2
    exact ⟨HB.out, rfl⟩
  | none =>
    obtain ⟨ev, e1, e2⟩ := (HG.out.below (Nat.le_refl _) hB).2
    have HT := Lib.hid (Tryd.strconv_toError_syntax ⟨#[80, 97, 114, 115, 101, 85, 105, 110, 116]⟩ t 16 8 ev w1 (by omega) e1 e2)
    clear hB HP e1 e2
    unfold hexV
    go_wp2_with fail
    refine HT.out.mono ?_
    rintro e w2 ⟨N, rfl, hN, _, hB2⟩
    have HB2 := Lib.hid (HB.out.trans (hB2.mono HB.out.size))
    clear hB2
    go_wp2
    go_ret2
    exact ⟨HB2.out, N, rfl⟩

/-- What an escape at a text's beginning says, and how long it is. -/
def escB : List UInt8 → Nat × Nat
  | _ :: b :: r =>
    if b.toNat = 116 then (9, 2) else if b.toNat = 110 then (10, 2) else if b.toNat = 114 then (13, 2) else if signB b.toNat then (b.toNat, 2)
    else if b.toNat = 120 ∧ 2 ≤ r.length then (match hexs 0 (r.take 2) with
      | some n => (n % 256, 4)
      | none => (0, 0))
    else (0, 0)
  | _ => (0, 0)

set_option maxRecDepth 100000 in
set_option maxHeartbeats 4000000 in
theorem readEscape_any (s : ByteArray) (hs : s.size ≤ 140737488351232) (w : World) (hG : Glob w) :
    Calls Tryd.prog 70 #[.string s] w fun e w' => e = .returned (.tuple #[.int .u8 (escB s.data.toList).1, .int .i64 (escB s.data.toList).2]) ∧ Below w.heap.size w w' := by
  have HG := Lib.hid hG
  clear hG
  by_cases h2 : s.size < 2
  · have hE : escB s.data.toList = (0, 0) := by
      have : s.data.toList.length < 2 := by rw [← Lib.size_eq]; exact h2
      generalize s.data.toList = l at this
      match l, this with
      | [], _ => rfl
      | [_], _ => rfl
    rw [hE]
    go_enter Tryd.func70, Tryd.ntmps70
    go_wp2
    go_ret2
    exact ⟨rfl, Below.refl _ _⟩
  · obtain ⟨b, hb⟩ : ∃ b, b = (s[1]'(by omega)).toNat := ⟨_, rfl⟩
    have hb256 : b < 256 := by rw [hb]; exact (s[1]'(by omega)).toNat_lt
    have hi : ∀ h, (s[1]'h).toNat = b := fun h => hb.symm
    have HE : Hid (escB s.data.toList = if b = 116 then (9, 2) else if b = 110 then (10, 2) else if b = 114 then (13, 2) else if signB b then (b, 2)
        else if b = 120 ∧ 4 ≤ s.size then (match hexs 0 (s.extract 2 4).data.toList with
          | some n => (n % 256, 4)
          | none => (0, 0))
        else (0, 0)) := by
      refine Lib.hid ?_
      have hl : ∃ x y r, s.data.toList = x :: y :: r := by
        have : 2 ≤ s.data.toList.length := by rw [← Lib.size_eq]; omega
        match s.data.toList, this with
        | x :: y :: r, _ => exact ⟨x, y, r, rfl⟩
      obtain ⟨x, y, r, hl⟩ := hl
      have hy : b = y.toNat := by
        rw [hb]
        show (s.data[1]'_).toNat = _
        rw [← Array.getElem_toList]
        simp [hl]
      have hr : (s.extract 2 4).data.toList = r.take 2 := by
        rw [ByteArray.data_extract, Array.toList_extract, List.extract_eq_take_drop, hl]
        rfl
      have hz : 4 ≤ s.size ↔ 2 ≤ r.length := by rw [Lib.size_eq, hl]; simp
      rw [hl, hy, hr]
      simp only [escB, hz]
    clear hb
    have HS := fun w' => Lib.hid (isSign_any b hb256 w')
    by_cases c1 : b = 116
    · have hE : escB s.data.toList = (9, 2) := by rw [HE.out, if_pos c1]
      rw [hE]
      subst c1
      go_enter Tryd.func70, Tryd.ntmps70
      go_wp2
      go_ret2
      exact ⟨rfl, Below.refl _ _⟩
    · by_cases c2 : b = 110
      · have hE : escB s.data.toList = (10, 2) := by rw [HE.out, if_neg c1, if_pos c2]
        rw [hE]
        subst c2
        go_enter Tryd.func70, Tryd.ntmps70
        go_wp2
        go_ret2
        exact ⟨rfl, Below.refl _ _⟩
      · by_cases c3 : b = 114
        · have hE : escB s.data.toList = (13, 2) := by rw [HE.out, if_neg c1, if_neg c2, if_pos c3]
          rw [hE]
          subst c3
          go_enter Tryd.func70, Tryd.ntmps70
          go_wp2
          go_ret2
          exact ⟨rfl, Below.refl _ _⟩
        · have d1 : ¬ (b : Int) = 116 := by omega
          have d2 : ¬ (b : Int) = 110 := by omega
          have d3 : ¬ (b : Int) = 114 := by omega
          cases hsg : signB b with
          | true =>
            have hE : escB s.data.toList = (b, 2) := by rw [HE.out, if_neg c1, if_neg c2, if_neg c3, if_pos hsg]
            rw [hE]
            clear HE hE
            go_enter Tryd.func70, Tryd.ntmps70
            go_wp2_with (go_at_call 71; refine (HS _).out.mono ?_; rintro e w' ⟨rfl, rfl⟩)
            go_ret2
            exact ⟨rfl, Below.refl _ _⟩
          | false =>
            by_cases c5 : b = 120 ∧ 4 ≤ s.size
            · obtain ⟨c5, c6⟩ := c5
              have hE : escB s.data.toList = (match hexs 0 (s.extract 2 4).data.toList with
                  | some n => (n % 256, 4)
                  | none => (0, 0)) := by rw [HE.out, if_neg c1, if_neg c2, if_neg c3, hsg, if_neg (by simp), if_pos ⟨c5, c6⟩]
              rw [hE]
              clear HE hE
              have hx2 : (s.extract 2 4).size = 2 := by rw [ByteArray.size_extract]; omega
              have HP := Lib.hid (parseUint_any (s.extract 2 4) hx2 w HG.out)
              obtain ⟨o, ho⟩ : ∃ o, o = hexs 0 (s.extract 2 4).data.toList := ⟨_, rfl⟩
              rw [← ho] at HP ⊢
              clear ho hx2
              subst c5
              go_enter Tryd.func70, Tryd.ntmps70
              go_wp2_with (first | (go_at_call 71; refine (HS _).out.mono ?_; rintro e w' ⟨rfl, rfl⟩) | fail)
              refine HP.out.mono ?_
              rintro e w1 ⟨hB, he⟩
              have HB := Lib.hid hB
              clear hB HP
              cases o with
              | some n =>
                dsimp only at he
                subst he
                go_wp2
                go_ret2
                exact ⟨by simp, HB.out⟩
              | none =>
                dsimp only at he
                obtain ⟨N, rfl⟩ := he
                go_wp2
                go_ret2
                exact ⟨rfl, HB.out⟩
            · have hE : escB s.data.toList = (0, 0) := by rw [HE.out, if_neg c1, if_neg c2, if_neg c3, hsg, if_neg (by simp), if_neg c5]
              rw [hE]
              clear HE hE
              by_cases c6 : b = 120
              · have c7 : ¬ 4 ≤ s.size := fun h => c5 ⟨c6, h⟩
                subst c6
                go_enter Tryd.func70, Tryd.ntmps70
                go_wp2_with (go_at_call 71; refine (HS _).out.mono ?_; rintro e w' ⟨rfl, rfl⟩)
                go_ret2
                exact ⟨rfl, Below.refl _ _⟩
              · have d5 : ¬ (b : Int) = 120 := by omega
                go_enter Tryd.func70, Tryd.ntmps70
                go_wp2_with (go_at_call 71; refine (HS _).out.mono ?_; rintro e w' ⟨rfl, rfl⟩)
                go_ret2
                exact ⟨rfl, Below.refl _ _⟩
end Go.Proofs.YtegmoeeeomjkgaaDoor
end
section
namespace Go.Proofs.YtegmoeeeomjkgaaDoor
open Go.ChangeShapes Go.WideShapes Go.ChangeAt Go.RowKit

theorem gTab : Tryd.prog.globalNamed "math/bits.deBruijn64tab" = some 0 := by kernel_rfl
theorem gTabType : (Tryd.prog.globals[0]?).map (·.type) = some 92 := by kernel_rfl
theorem gErr : Tryd.prog.globalNamed "strconv.ErrSyntax" = some 1 := by kernel_rfl
theorem gErrType : (Tryd.prog.globals[1]?).map (·.type) = some 115 := by kernel_rfl
theorem cells92 : Tryd.prog.cellsOf 92 = 64 := by kernel_rfl
theorem cells5 : Tryd.prog.cellsOf 5 = 1 := by kernel_rfl

theorem tab_datum {H : Type} : (Rows.laid_math_bits_deBruijn64tab : DataW H) = Lib.tabData .u8 (Lib.deBruijn64tab.map fun n : Nat => (n : Int)) := rfl

theorem own : ownKnob Tryd.prog.godebug = none := by kernel_rfl
theorem laidOut : laidOutB Tryd.prog = true := by kernel_rfl

/-- A variable of an interface's type is one such value. -/
theorem iface_cells {H : Type} {enc : TypeId × Value → H} {P : Program} {w : World} {base : Nat} {sp : Nat → Bool} {held : Bool} {fuel : Nat} {t : TypeId} {ms : Array (String × TypeId)} {cs : List Value} {x : DataW H × List MemPlace}
    (ht : P.underlying t = some (.interface ms)) (h : DataW.trod enc P w base sp held fuel t cs = some x) : cs = [.nilIface] ∨ ∃ u v, cs = [.iface u v] := by
  cases fuel with
  | zero => simp [DataW.trod] at h
  | succ fuel =>
    rw [DataW.trod.eq_def] at h
    simp only [ht] at h
    split at h <;> simp_all

theorem laid_data {W : World} (h : laidMetH Tryd.prog Rows.setsLawsRow.laid W) : laidMet Tryd.prog Rows.setsLawsRow.laid W := by
  exact h

/-- What every row's list gives: what the program's variables hold. -/
theorem glob_of_laid {W : World} (h : laidMetH Tryd.prog Rows.setsLawsRow.laid W) : Glob W := by
  have hp : laidMet Tryd.prog Rows.setsLawsRow.laid W := laid_data h
  refine ⟨?_, ?_⟩
  · obtain ⟨g, t, cs, fuel, p, hg, ht, hv, hd⟩ := Lib.laidMet.reads hp (.tail _ (.head _))
    obtain rfl := Option.some.inj (gTab.symm.trans hg)
    obtain rfl := Option.some.inj (gTabType.symm.trans ht)
    rw [tab_datum] at hd
    have hcs := Lib.cells_of_tab Tryd.underlying92 Tryd.underlying5 cells5 cells92 hd
    intro j hj
    have := World.var?_cell hg hv j
    rw [this]
    have e : cs[j]? = cs.toList[j]? := by simp
    rw [e, hcs]
    simp [hj]
  · obtain ⟨g, t, cs, fuel, p, hg, ht, hv, hd⟩ := Lib.laidMet.reads hp (.tail _ (.tail _ (.tail _ (.tail _ (.head _)))))
    obtain rfl := Option.some.inj (gErr.symm.trans hg)
    obtain rfl := Option.some.inj (gErrType.symm.trans ht)
    have := World.var?_cell hg hv 0
    rcases iface_cells Tryd.underlying115 hd with hcs | ⟨u, v, hcs⟩
    · rw [Array.eq_one_of_toList hcs] at this
      exact ⟨_, this, .inl rfl⟩
    · rw [Array.eq_one_of_toList hcs] at this
      exact ⟨_, this, .inr ⟨u, v, rfl⟩⟩

theorem cellTypes29 : Tryd.prog.cellTypes Tryd.prog.depth 29 = some [27, 27, 27, 27] := by kernel_rfl
theorem cells29 : Tryd.prog.cellsOf 29 = 4 := by kernel_rfl

set_option maxRecDepth 10000 in
/-- A set handed in is a set of words. -/
theorem open_set {W : World} {base : Nat} {v : Value} (h : Value.okWide Tryd.prog W .any base 29 v) : ∃ s : BS, v = vset s := by
  simp only [Value.okWide, Tryd.underlying29] at h
  obtain ⟨cs, rfl, hsz, ts, hts, _, hc⟩ := h
  rw [cellTypes29] at hts
  obtain rfl := (Option.some.inj hts)
  rw [cells29] at hsz
  have hx : ∀ i < 4, ∃ n : Int, cs[i]? = some (.int .u64 n) ∧ 0 ≤ n ∧ n < 18446744073709551616 := by
    intro i hi
    obtain ⟨v, hv⟩ : ∃ v, cs[i]? = some v := ⟨cs[i], by simp [hsz, hi]⟩
    obtain ⟨u, hu, hok⟩ := hc i v hv
    have hu' : u = 27 := by
      have : i = 0 ∨ i = 1 ∨ i = 2 ∨ i = 3 := by omega
      rcases this with rfl | rfl | rfl | rfl <;> simpa using hu.symm
    subst hu'
    simp only [Cell.okWide, Tryd.underlying27] at hok
    cases v <;> simp_all [Cell.ok, Tryd.underlying27]
    obtain ⟨rfl, h1, h2⟩ := hok
    exact ⟨h1, by have : IntKind.u64.max = 18446744073709551615 := by decide
                  omega⟩
  obtain ⟨a, ha, ra⟩ := hx 0 (by omega)
  obtain ⟨b, hb, rb⟩ := hx 1 (by omega)
  obtain ⟨c, hc', rc⟩ := hx 2 (by omega)
  obtain ⟨d, hd, rd⟩ := hx 3 (by omega)
  obtain ⟨s, rfl, rfl, rfl, rfl⟩ := set_of_words a b c d ra rb rc rd
  refine ⟨s, ?_⟩
  unfold vset
  congr 1
  apply Array.ext_getElem?
  intro i
  by_cases hi : i < 4
  · have : i = 0 ∨ i = 1 ∨ i = 2 ∨ i = 3 := by omega
    rcases this with rfl | rfl | rfl | rfl
    · rw [ha]; rfl
    · rw [hb]; rfl
    · rw [hc']; rfl
    · rw [hd]; rfl
  · rw [Array.getElem?_eq_none (by omega), Array.getElem?_eq_none (by simp; omega)]

/-- The world of a witness: what the variables hold behind the program's start. -/
theorem door_met (os : Os) (args : Array Value) : laidMetH Tryd.prog Rows.setsLawsRow.laid ((World.doorLaid Tryd.prog 62 os).forCall (fun _ _ => 0) ⟨#[], args, []⟩).memory :=
  laidMetH_of_parts3 (fuel := 8) (laidMet_of_run' 8 (by kernel_rfl) (by kernel_rfl)) (by kernel_rfl) (by kernel_rfl)
end Go.Proofs.YtegmoeeeomjkgaaDoor
end
section
namespace Go.Proofs.YtegmoeeeomjkgaaDoor
open Go Go.RowKit

theorem and_twoPow (x : BitVec 64) (j : Nat) (h : x.getLsbD j = false) : x &&& BitVec.twoPow 64 j = 0#64 := by
  apply BitVec.eq_of_getLsbD_eq; intro i hi
  rw [BitVec.getLsbD_and, BitVec.getLsbD_twoPow]
  by_cases e : j = i
  · subst e; simp [h]
  · simp [e]

/-- A byte that is not in the set is put there by adding its bit. -/
theorem wdI_add (s : BS) (b i : Nat) (hb : b < 256) (h : b / 64 = i) (hs : s.getLsbD b = false) : IntKind.u64.wrap (wdI s i + IntKind.u64.wrap (2 ^ (b % 64))) = wdI (withB s b) i := by
  rw [two_pow_bv _ (by omega)]; unfold wdI
  rw [wd_with s b i hb, if_pos h.symm]
  have hz : wd s i &&& BitVec.twoPow 64 (b % 64) = 0#64 := and_twoPow _ _ (by
    rw [wd_bit]; subst h
    rw [show 64 * (b / 64) + b % 64 = b by omega, hs]; simp)
  rw [← BitVec.add_eq_or_of_and_eq_zero _ _ hz, BitVec.toNat_add, IntKind.wrap_u64]
  omega

theorem withB_has (s : BS) (b : Nat) (hb : b < 256) (h : s.getLsbD b = true) : withB s b = s := by
  apply BitVec.eq_of_getLsbD_eq; intro j hj
  rw [withB_bit _ _ _ hb]
  by_cases e : b = j
  · subst e; simp [h]
  · simp [e]

theorem bit2_I (s : BS) (b : Nat) (hb : b < 256) : (wdI s (b / 64) / 2 ^ (b % 64) % 2 == 1) = s.getLsbD b := by
  rw [← bit_I s b hb]
  have e : wdI s (b / 64) / 2 ^ (b % 64) = ((wd s (b / 64)).toNat / 2 ^ (b % 64) : Nat) := by
    unfold wdI; simp
  have hlt := (wd s (b / 64)).isLt
  have hl2 : (wd s (b / 64)).toNat / 2 ^ (b % 64) < 18446744073709551616 := Nat.lt_of_le_of_lt (Nat.div_le_self _ _) hlt
  rw [e]
  have e1 : (1 : Int) = ((1 : Nat) : Int) := rfl
  have h := bits_and_u64_nat _ 1 hl2 (by omega)
  rw [Nat.and_one_is_mod] at h
  rw [e1, h]
  generalize (wd s (b / 64)).toNat / 2 ^ (b % 64) = X
  have : X % 2 = 0 ∨ X % 2 = 1 := by omega
  rcases this with h | h
  · have : ((X : Int) % 2) = 0 := by omega
    simp [h, this]
  · have : ((X : Int) % 2) = 1 := by omega
    simp [h, this]

set_option maxHeartbeats 400000 in
theorem rhas_any (s : BS) (b : Nat) (hb : b < 256) (w : World) : Calls Tryd.prog 17 #[vset s, .int .i64 b] w fun e w' => e = .returned (.bool (s.getLsbD b)) ∧ Below w.heap.size w w' := by
  have hr := bit2_I s b hb
  rw [← hr]; clear hr
  unfold vset
  have hc := cells_at s (b / 64) (by omega)
  go_enter Tryd.func17, Tryd.ntmps17
  go_wp2
  go_ret
  exact ⟨rfl, (Below.refl _ _).alloc (Nat.le_refl _) _⟩

set_option maxRecDepth 100000 in
set_option maxHeartbeats 2000000 in
theorem rwith_old (s : BS) (b : Nat) (hb : b < 256) (hs : s.getLsbD b = true) (w : World) : Calls Tryd.prog 42 #[vset s, .int .i64 b] w fun e w' => e = .returned (vset s) ∧ Below w.heap.size w w' := by
  have HH := Lib.hid (fun w' => rhas_any s b hb w')
  rw [hs] at HH
  clear hs
  unfold vset at HH ⊢
  go_enter Tryd.func42, Tryd.ntmps42
  go_wp2_with fail
  refine (HH.out _).mono ?_
  rintro e w1 ⟨rfl, hB1⟩
  have hA := Lib.hid (((Blk.new w 29 (cset s)).alloc (.cells #[.int .u64 0, .int .u64 0, .int .u64 0, .int .u64 0] 29)).below hB1 (by simp; omega))
  have hZ0 := (Blk.new (w.alloc (.cells (cset s) 29)) 29 zcs).below hB1 (by simp)
  rw [World.size_alloc] at hZ0
  have hZ := Lib.hid hZ0
  have HB := Lib.hid ((((Below.refl _ w).alloc (Nat.le_refl _) (.cells (cset s) 29)).alloc (by simp) (.cells zcs 29)).trans (hB1.mono (by simp; omega)))
  clear hZ0 hB1 HH
  have c0 : w1.cell? ⟨w.heap.size, 0, none⟩ = some (.int .u64 (wdI s 0)) := hA.out.cell 0
  have c1 : w1.cell? ⟨w.heap.size, 1, none⟩ = some (.int .u64 (wdI s 1)) := hA.out.cell 1
  have c2 : w1.cell? ⟨w.heap.size, 2, none⟩ = some (.int .u64 (wdI s 2)) := hA.out.cell 2
  have c3 : w1.cell? ⟨w.heap.size, 3, none⟩ = some (.int .u64 (wdI s 3)) := hA.out.cell 3
  have z0 : w1.cell? ⟨w.heap.size + 1, 0, none⟩ = some (.int .u64 0) := hZ.out.cell 0
  have z1 : w1.cell? ⟨w.heap.size + 1, 1, none⟩ = some (.int .u64 0) := hZ.out.cell 1
  have z2 : w1.cell? ⟨w.heap.size + 1, 2, none⟩ = some (.int .u64 0) := hZ.out.cell 2
  have z3 : w1.cell? ⟨w.heap.size + 1, 3, none⟩ = some (.int .u64 0) := hZ.out.cell 3
  have fz : ∀ i, w1.frozen? ⟨w.heap.size + 1, i, none⟩ = false := hZ.out.frozen
  go_wp2
  have y := Blk.set4 hZ.out (.int .u64 (wdI s 0)) (.int .u64 (wdI s 1)) (.int .u64 (wdI s 2)) (.int .u64 (wdI s 3))
  have y0 := y.cell 0
  have y1 := y.cell 1
  have y2 := y.cell 2
  have y3 := y.cell 3
  refine bodyPost_ret (v := .agg #[.int .u64 (wdI s 0), .int .u64 (wdI s 1), .int .u64 (wdI s 2), .int .u64 (wdI s 3)]) (by simp [results, Tryd.results42, go_sem, y0, y1, y2, y3]) rfl ⟨rfl, ?_⟩
  exact below_set4 HB.out (by omega) _ _ _ _

theorem cset_put (s u : BS) (i : Nat) (hi : i < 4) (h : ∀ k, k < 4 → k ≠ i → wdI u k = wdI s k) : (cset s).setIfInBounds i (.int .u64 (wdI u i)) = cset u := by
  have : i = 0 ∨ i = 1 ∨ i = 2 ∨ i = 3 := by omega
  rcases this with rfl | rfl | rfl | rfl
  · have h1 := h 1 (by omega) (by omega); have h2 := h 2 (by omega) (by omega); have h3 := h 3 (by omega) (by omega)
    unfold cset; rw [h1, h2, h3]; rfl
  · have h1 := h 0 (by omega) (by omega); have h2 := h 2 (by omega) (by omega); have h3 := h 3 (by omega) (by omega)
    unfold cset; rw [h1, h2, h3]; rfl
  · have h1 := h 0 (by omega) (by omega); have h2 := h 1 (by omega) (by omega); have h3 := h 3 (by omega) (by omega)
    unfold cset; rw [h1, h2, h3]; rfl
  · have h1 := h 0 (by omega) (by omega); have h2 := h 1 (by omega) (by omega); have h3 := h 2 (by omega) (by omega)
    unfold cset; rw [h1, h2, h3]; rfl

set_option maxRecDepth 100000 in
set_option maxHeartbeats 2000000 in
theorem rwith_new (s : BS) (b : Nat) (hb : b < 256) (hs : s.getLsbD b = false) (w : World) : Calls Tryd.prog 42 #[vset s, .int .i64 b] w fun e w' => e = .returned (vset (withB s b)) ∧ Below w.heap.size w w' := by
  have HH := Lib.hid (fun w' => rhas_any s b hb w')
  have HI : Hid (IntKind.u64.wrap (wdI s (b / 64) + IntKind.u64.wrap (2 ^ (b % 64))) = wdI (withB s b) (b / 64)) := wdI_add s b _ hb rfl hs
  have HO : Hid (∀ i, i < 4 → i ≠ b / 64 → wdI (withB s b) i = wdI s i) := fun i _ h => wdI_with_other s b i hb (fun e => h e.symm)
  rw [hs] at HH
  clear hs
  obtain ⟨u, hu⟩ : ∃ u, u = withB s b := ⟨_, rfl⟩
  rw [← hu] at HI HO ⊢
  clear hu
  unfold vset at HH ⊢
  go_enter Tryd.func42, Tryd.ntmps42
  go_wp2_with fail
  refine (HH.out _).mono ?_
  rintro e w1 ⟨rfl, hB1⟩
  have hA := Lib.hid (((Blk.new w 29 (cset s)).alloc (.cells #[.int .u64 0, .int .u64 0, .int .u64 0, .int .u64 0] 29)).below hB1 (by simp; omega))
  have hZ0 := (Blk.new (w.alloc (.cells (cset s) 29)) 29 zcs).below hB1 (by simp)
  rw [World.size_alloc] at hZ0
  have hZ := Lib.hid hZ0
  have HB := Lib.hid ((((Below.refl _ w).alloc (Nat.le_refl _) (.cells (cset s) 29)).alloc (by simp) (.cells zcs 29)).trans (hB1.mono (by simp; omega)))
  clear hZ0 hB1 HH
  have hcat := cells_at s (b / 64) (by omega)
  have hcell : w1.cell? ⟨w.heap.size, b / 64, none⟩ = some (.int .u64 (wdI s (b / 64))) := by
    rw [hA.out.cell]; unfold cset; simpa using hcat
  have hfr := hA.out.frozen (b / 64)
  have hk := HI.out
  clear hcat
  go_wp2
  go_region
  have hA2 : Blk (w1.setCell ⟨w.heap.size, b / 64, none⟩ (.int .u64 (wdI u (b / 64)))).drew w.heap.size 29 (cset u) := by
    have h := hA.out.set (b / 64) (.int .u64 (wdI u (b / 64)))
    rw [cset_put s u (b / 64) (by omega) HO.out] at h
    exact h
  have hZ2 : Blk (w1.setCell ⟨w.heap.size, b / 64, none⟩ (.int .u64 (wdI u (b / 64)))).drew (w.heap.size + 1) 29 zcs := hZ.out.other (a := ⟨w.heap.size, b / 64, none⟩) (by simp) _
  have hB2 : Below w.heap.size w (w1.setCell ⟨w.heap.size, b / 64, none⟩ (.int .u64 (wdI u (b / 64)))).drew := (HB.out.setCell (p := ⟨w.heap.size, b / 64, none⟩) (Nat.le_refl _) _).drew
  obtain ⟨w2, hw2⟩ : ∃ w2, w2 = (w1.setCell ⟨w.heap.size, b / 64, none⟩ (.int .u64 (wdI u (b / 64)))).drew := ⟨_, rfl⟩
  rw [← hw2] at hA2 hZ2 hB2 ⊢
  have HA2 := Lib.hid hA2
  have HZ2 := Lib.hid hZ2
  have HB2 := Lib.hid hB2
  clear hw2 hcell hfr hk hA hZ HB HI HO hA2 hZ2 hB2
  have c0 : w2.cell? ⟨w.heap.size, 0, none⟩ = some (.int .u64 (wdI u 0)) := HA2.out.cell 0
  have c1 : w2.cell? ⟨w.heap.size, 1, none⟩ = some (.int .u64 (wdI u 1)) := HA2.out.cell 1
  have c2 : w2.cell? ⟨w.heap.size, 2, none⟩ = some (.int .u64 (wdI u 2)) := HA2.out.cell 2
  have c3 : w2.cell? ⟨w.heap.size, 3, none⟩ = some (.int .u64 (wdI u 3)) := HA2.out.cell 3
  have z0 : w2.cell? ⟨w.heap.size + 1, 0, none⟩ = some (.int .u64 0) := HZ2.out.cell 0
  have z1 : w2.cell? ⟨w.heap.size + 1, 1, none⟩ = some (.int .u64 0) := HZ2.out.cell 1
  have z2 : w2.cell? ⟨w.heap.size + 1, 2, none⟩ = some (.int .u64 0) := HZ2.out.cell 2
  have z3 : w2.cell? ⟨w.heap.size + 1, 3, none⟩ = some (.int .u64 0) := HZ2.out.cell 3
  have fz : ∀ i, w2.frozen? ⟨w.heap.size + 1, i, none⟩ = false := HZ2.out.frozen
  go_wp2
  have y := Blk.set4 HZ2.out (.int .u64 (wdI u 0)) (.int .u64 (wdI u 1)) (.int .u64 (wdI u 2)) (.int .u64 (wdI u 3))
  have y0 := y.cell 0
  have y1 := y.cell 1
  have y2 := y.cell 2
  have y3 := y.cell 3
  refine bodyPost_ret (v := .agg #[.int .u64 (wdI u 0), .int .u64 (wdI u 1), .int .u64 (wdI u 2), .int .u64 (wdI u 3)]) (by simp [results, Tryd.results42, go_sem, y0, y1, y2, y3]) rfl ⟨rfl, ?_⟩
  exact below_set4 HB2.out (by omega) _ _ _ _

theorem rwith_any (s : BS) (b : Nat) (hb : b < 256) (w : World) : Calls Tryd.prog 42 #[vset s, .int .i64 b] w fun e w' => e = .returned (vset (withB s b)) ∧ Below w.heap.size w w' := by
  cases h : s.getLsbD b with
  | true => rw [withB_has s b hb h]; exact rwith_old s b hb h w
  | false => exact rwith_new s b hb h w
end Go.Proofs.YtegmoeeeomjkgaaDoor
end
