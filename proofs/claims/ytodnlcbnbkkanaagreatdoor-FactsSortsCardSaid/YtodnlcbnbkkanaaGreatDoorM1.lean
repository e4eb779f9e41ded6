import Derived.Shelf.Spec.TrailingZeros
import Derived.Test.YtodnlcbnbkkanaaGreatDoorProg
import Derived.WalkKit
import Derived.WalkSpells
import Derived.WalkLawsBesides
import Derived.Lib.Hide
import Derived.Below
import Derived.RangeFuncNested
import Derived.RangeFuncBound
import Derived.RangeFuncCalls
import Derived.RangeFuncLeaves
import Derived.Deep.RegionWith
import Derived.Deep.RegionHeld3
import Derived.OpenShut
import Derived.Deep.QuietTactic
import Derived.BigQuiet
import Derived.IntWalk
import Derived.Deep.RegionLaw
import Derived.StillTailTactics
import Derived.Maps.Keyed
import Derived.Maps.OwnSet
import Derived.Maps.OwnOps
import Derived.Maps.Views
import Derived.DeepKeys5
import Derived.ChangeSame
section
/-
  DERIVED: THE SHELF's CONTRACTS AT THIS DUMP, IN PLAIN WORDS (tools/lay-plain.mjs out of 'YtodnlcbnbkkanaaGreatDoorLib.lean', which tools/lay-shelf.mjs wrote): THE SAME DECLARATIONS UNDER THE SAME NAMES: 'import', 'namespace', 'open', 'def', 'theorem' AND NOTHING ELSE: no command of the shelf's: FOR A HAND-IN. Each laying: the table of numbers ('.._ren') and one theorem, a field a fact of the dump's own or the kernel's comparison; each contract: ONE APPLICATION.
-/
namespace Go.Proofs
open Go.Shelf
def Tryz.lays7n29_ren : Go.Shelf.Ren := ⟨fun | 29 => 173 | n => n, fun | 22 => 45 | 3 => 3 | 4 => 4 | 25 => 204 | 54 => 222 | 0 => 0 | 5 => 5 | n => n, fun | 1 => 1 | n => n⟩
theorem Tryz.lays7n29 : Go.Proofs.Lays7.n29 Tryz.prog Tryz.lays7n29_ren := {
  mixed := by kernel_rfl
  f29 := Tryz.func173.trans (congrArg some (by kernel_rfl))
  t0 := Tryz.underlying0
  a0 := Tryz.isAgg0
  z0 := Tryz.sizeOf0
  v0 := Tryz.zeroValue0
  i0 := by kernel_rfl
  t3 := Tryz.underlying3
  a3 := Tryz.isAgg3
  z3 := Tryz.sizeOf3
  v3 := Tryz.zeroValue3
  i3 := by kernel_rfl
  t4 := Tryz.underlying4
  a4 := Tryz.isAgg4
  z4 := Tryz.sizeOf4
  v4 := Tryz.zeroValue4
  i4 := by kernel_rfl
  t5 := Tryz.underlying5
  a5 := Tryz.isAgg5
  z5 := Tryz.sizeOf5
  v5 := Tryz.zeroValue5
  i5 := by kernel_rfl
  t22 := Tryz.underlying45
  a22 := Tryz.isAgg45
  z22 := Tryz.sizeOf45
  v22 := Tryz.zeroValue45
  i22 := by kernel_rfl
  t25 := Tryz.underlying204
  a25 := Tryz.isAgg204
  z25 := Tryz.sizeOf204
  v25 := Tryz.zeroValue204
  i25 := by kernel_rfl
  t54 := Tryz.underlying222
  a54 := Tryz.isAgg222
  z54 := Tryz.sizeOf222
  g1 := by kernel_rfl }
open Go.RowKit in
theorem Tryz.bits_TrailingZeros64 (x : Nat) (hx : x < 18446744073709551616) (w : World) (hT : x ≠ 0 → TabAt 1 Lib.deBruijn64tab w) :
    Calls Tryz.prog 173 #[.int .u64 x] w fun e w' => e = .returned (.int .i64 (Lib.ctz 64 x)) ∧ w' = w := Any7.bits_TrailingZeros64 Tryz.lays7n29 x hx w hT
end Go.Proofs
end
section
namespace Go.Proofs.YtodnlcbnbkkanaaGreatDoor
open Go Go.RowKit

/-- A set of bytes. -/
abbrev BS := BitVec 256

/-- A word of a set. -/
def wd (s : BS) (i : Nat) : BitVec 64 := s.extractLsb' (64 * i) 64
def wdI (s : BS) (i : Nat) : Int := ((wd s i).toNat : Int)
def cset (s : BS) : Array Value := #[.int .u64 (wdI s 0), .int .u64 (wdI s 1), .int .u64 (wdI s 2), .int .u64 (wdI s 3)]
def vset (s : BS) : Value := .agg #[.int .u64 (wdI s 0), .int .u64 (wdI s 1), .int .u64 (wdI s 2), .int .u64 (wdI s 3)]

theorem wd_bit (s : BS) (i j : Nat) : (wd s i).getLsbD j = (decide (j < 64) && s.getLsbD (64 * i + j)) := by
  simp [wd, BitVec.getLsbD_extractLsb']

theorem ofInt_nat (x : BitVec 64) : BitVec.ofInt 64 (x.toNat : Int) = x := by
  rw [BitVec.ofInt_natCast]; simp

theorem wrap_bv (x : BitVec 64) : IntKind.u64.wrap (x.toNat : Int) = (x.toNat : Int) := by
  have := x.isLt
  rw [IntKind.wrap_u64]; omega

theorem bits_or_bv (x y : BitVec 64) : bits .or .u64 (x.toNat : Int) (y.toNat : Int) = ((x ||| y).toNat : Int) := by
  show IntKind.u64.wrap ((BitVec.ofInt 64 (x.toNat : Int) ||| BitVec.ofInt 64 (y.toNat : Int)).toNat : Int) = _
  rw [ofInt_nat, ofInt_nat, wrap_bv]
theorem bits_and_bv (x y : BitVec 64) : bits .and .u64 (x.toNat : Int) (y.toNat : Int) = ((x &&& y).toNat : Int) := by
  show IntKind.u64.wrap ((BitVec.ofInt 64 (x.toNat : Int) &&& BitVec.ofInt 64 (y.toNat : Int)).toNat : Int) = _
  rw [ofInt_nat, ofInt_nat, wrap_bv]
theorem bits_xor_bv (x y : BitVec 64) : bits .xor .u64 (x.toNat : Int) (y.toNat : Int) = ((x ^^^ y).toNat : Int) := by
  show IntKind.u64.wrap ((BitVec.ofInt 64 (x.toNat : Int) ^^^ BitVec.ofInt 64 (y.toNat : Int)).toNat : Int) = _
  rw [ofInt_nat, ofInt_nat, wrap_bv]
theorem bits_andNot_bv (x y : BitVec 64) : bits .andNot .u64 (x.toNat : Int) (y.toNat : Int) = ((x &&& ~~~y).toNat : Int) := by
  show IntKind.u64.wrap ((BitVec.ofInt 64 (x.toNat : Int) &&& ~~~BitVec.ofInt 64 (y.toNat : Int)).toNat : Int) = _
  rw [ofInt_nat, ofInt_nat, wrap_bv]

theorem wd_or (s t : BS) (i : Nat) : wd (s ||| t) i = wd s i ||| wd t i := by
  apply BitVec.eq_of_getLsbD_eq; intro j hj
  rw [BitVec.getLsbD_or, wd_bit, wd_bit, wd_bit, BitVec.getLsbD_or]
  simp [hj]
theorem wd_and (s t : BS) (i : Nat) : wd (s &&& t) i = wd s i &&& wd t i := by
  apply BitVec.eq_of_getLsbD_eq; intro j hj
  rw [BitVec.getLsbD_and, wd_bit, wd_bit, wd_bit, BitVec.getLsbD_and]
  simp [hj]
theorem wd_not (s : BS) (i : Nat) (h : i < 4) : wd (~~~s) i = ~~~(wd s i) := by
  apply BitVec.eq_of_getLsbD_eq; intro j hj
  have : 64 * i + j < 256 := by omega
  rw [BitVec.getLsbD_not, wd_bit, wd_bit, BitVec.getLsbD_not]
  simp [hj, this]

theorem wdI_or (s t : BS) (i : Nat) : bits .or .u64 (wdI s i) (wdI t i) = wdI (s ||| t) i := by
  unfold wdI; rw [bits_or_bv, wd_or]
theorem wdI_and (s t : BS) (i : Nat) : bits .and .u64 (wdI s i) (wdI t i) = wdI (s &&& t) i := by
  unfold wdI; rw [bits_and_bv, wd_and]
theorem wdI_andNot (s t : BS) (i : Nat) (h : i < 4) : bits .andNot .u64 (wdI s i) (wdI t i) = wdI (s &&& ~~~t) i := by
  unfold wdI; rw [bits_andNot_bv, wd_and, wd_not _ _ h]
theorem wdI_not (s : BS) (i : Nat) (h : i < 4) : bits .xor .u64 (wdI s i) 18446744073709551615 = wdI (~~~s) i := by
  have e : (18446744073709551615 : Int) = ((BitVec.allOnes 64).toNat : Int) := by decide
  unfold wdI; rw [e, bits_xor_bv, wd_not _ _ h, BitVec.xor_allOnes]

theorem wdI_lo (s : BS) (i : Nat) : 0 ≤ wdI s i := by unfold wdI; omega
theorem wdI_hi (s : BS) (i : Nat) : wdI s i < 18446744073709551616 := by have := (wd s i).isLt; unfold wdI; omega

theorem set_ext {s t : BS} (h : ∀ i, i < 4 → wd s i = wd t i) : s = t := by
  apply BitVec.eq_of_getLsbD_eq; intro j hj
  have := congrArg (fun x => BitVec.getLsbD x (j % 64)) (h (j / 64) (by omega))
  simp only [wd_bit] at this
  have e : 64 * (j / 64) + j % 64 = j := by omega
  have e2 : j % 64 < 64 := by omega
  simpa [e, e2] using this

theorem wdI_inj {s t : BS} (h0 : wdI s 0 = wdI t 0) (h1 : wdI s 1 = wdI t 1) (h2 : wdI s 2 = wdI t 2) (h3 : wdI s 3 = wdI t 3) : s = t := by
  apply set_ext
  intro i hi
  apply BitVec.eq_of_toNat_eq
  have h : i = 0 ∨ i = 1 ∨ i = 2 ∨ i = 3 := by omega
  unfold wdI at h0 h1 h2 h3
  rcases h with rfl | rfl | rfl | rfl <;> omega

theorem wd_app (x y z u : BitVec 64) (i : Nat) (hi : i < 4) : wd ((x ++ y) ++ (z ++ u) : BitVec 256) i = if i = 0 then u else if i = 1 then z else if i = 2 then y else x := by
  apply BitVec.eq_of_getLsbD_eq; intro j hj
  rw [wd_bit, BitVec.getLsbD_append, BitVec.getLsbD_append, BitVec.getLsbD_append]
  have h : i = 0 ∨ i = 1 ∨ i = 2 ∨ i = 3 := by omega
  rcases h with rfl | rfl | rfl | rfl
  · have h1 : 64 * 0 + j < 64 + 64 := by omega
    have h2 : 64 * 0 + j < 64 := by omega
    simp only [h1, h2, hj, if_true, decide_true, Bool.true_and]
    simp
  · have h1 : 64 * 1 + j < 64 + 64 := by omega
    have h2 : ¬ 64 * 1 + j < 64 := by omega
    have h3 : 64 * 1 + j - 64 = j := by omega
    simp only [h1, h2, h3, hj, if_true, if_false, decide_true, Bool.true_and]
    simp
  · have h1 : ¬ 64 * 2 + j < 64 + 64 := by omega
    have h2 : 64 * 2 + j - (64 + 64) < 64 := by omega
    have h3 : 64 * 2 + j - (64 + 64) = j := by omega
    simp only [h1, h3, hj, if_true, if_false, decide_true, Bool.true_and]
    simp
  · have h1 : ¬ 64 * 3 + j < 64 + 64 := by omega
    have h2 : ¬ 64 * 3 + j - (64 + 64) < 64 := by omega
    have h3 : 64 * 3 + j - (64 + 64) - 64 = j := by omega
    simp only [h1, h2, h3, hj, if_true, if_false, decide_true, Bool.true_and]
    simp

theorem set_of_words (a b c d : Int) (ha : 0 ≤ a ∧ a < 18446744073709551616) (hb : 0 ≤ b ∧ b < 18446744073709551616) (hc : 0 ≤ c ∧ c < 18446744073709551616) (hd : 0 ≤ d ∧ d < 18446744073709551616) :
    ∃ s : BS, a = wdI s 0 ∧ b = wdI s 1 ∧ c = wdI s 2 ∧ d = wdI s 3 := by
  refine ⟨((BitVec.ofNat 64 d.toNat ++ BitVec.ofNat 64 c.toNat) ++ (BitVec.ofNat 64 b.toNat ++ BitVec.ofNat 64 a.toNat) : BitVec 256), ?_, ?_, ?_, ?_⟩
  all_goals
    unfold wdI
    rw [wd_app _ _ _ _ _ (by omega)]
    simp
    omega

/-- One byte alone. -/
def one (b : Nat) : BS := BitVec.twoPow 256 b

theorem one_bit (b j : Nat) (hb : b < 256) : (one b).getLsbD j = decide (b = j) := by
  unfold one; rw [BitVec.getLsbD_twoPow]; simp [hb]

/-- A set and a byte more. -/
def withB (s : BS) (b : Nat) : BS := s ||| one b

theorem withB_bit (s : BS) (b j : Nat) (hb : b < 256) : (withB s b).getLsbD j = (s.getLsbD j || decide (b = j)) := by
  unfold withB; rw [BitVec.getLsbD_or, one_bit b j hb]

theorem wd_one (b i : Nat) (hb : b < 256) : wd (one b) i = if i = b / 64 then BitVec.twoPow 64 (b % 64) else 0#64 := by
  apply BitVec.eq_of_getLsbD_eq; intro j hj
  rw [wd_bit, one_bit _ _ hb]
  by_cases h : i = b / 64
  · rw [if_pos h, BitVec.getLsbD_twoPow]
    have e : (b = 64 * i + j) ↔ (b % 64 = j) := by omega
    have e2 : b % 64 < 64 := by omega
    simp [hj, e, e2]
  · rw [if_neg h]
    have e : ¬ (b = 64 * i + j) := by omega
    simp [e]

/-- The word in which a byte lies, with it. -/
theorem wd_with (s : BS) (b i : Nat) (hb : b < 256) : wd (withB s b) i = if i = b / 64 then wd s i ||| BitVec.twoPow 64 (b % 64) else wd s i := by
  unfold withB; rw [wd_or, wd_one _ _ hb]
  split <;> simp

end Go.Proofs.YtodnlcbnbkkanaaGreatDoor
end
section
namespace Go.Proofs.YtodnlcbnbkkanaaGreatDoor
open Go Go.RowKit

theorem lt_of_cell {w : World} {b i : Nat} {v : Value} (h : w.cell? ⟨b, i, none⟩ = some v) : b < w.heap.size := by
  unfold World.cell? at h
  by_cases hb : b < w.heap.size
  · exact hb
  · simp [Array.getElem?_eq_none (Nat.le_of_not_lt hb)] at h

/-- A block of cells known whole, none frozen. -/
def Blk (W : World) (B : Nat) (t : TypeId) (cs : Array Value) : Prop := W.heap[B]? = some (.cells cs t (0, 0))

theorem Blk.lt {W : World} {B t : Nat} {cs : Array Value} (h : Blk W B t cs) : B < W.heap.size := (Array.getElem?_eq_some_iff.1 h).1
theorem Blk.cell {W : World} {B t : Nat} {cs : Array Value} (h : Blk W B t cs) (i : Nat) : W.cell? ⟨B, i, none⟩ = cs[i]? := by
  unfold World.cell?
  simp only [show W.heap[B]? = _ from h]
  rfl
theorem Blk.frozen {W : World} {B t : Nat} {cs : Array Value} (h : Blk W B t cs) (i : Nat) : W.frozen? ⟨B, i, none⟩ = false := by
  unfold World.frozen?
  simp only [show W.heap[B]? = _ from h]
  simp
theorem Blk.new (W : World) (t : TypeId) (cs : Array Value) : Blk (W.alloc (.cells cs t)) W.heap.size t cs := World.alloc_heap_new W _
theorem Blk.kept {W W' : World} {row : Option Nat} {B t : Nat} {cs : Array Value} (h : Blk W B t cs) (hg : W.grownBy W' row) (hne : some B ≠ row) : Blk W' B t cs := (hg.block B h.lt hne).trans h
theorem Blk.alloc {W : World} {B t : Nat} {cs : Array Value} (h : Blk W B t cs) (o : Obj) : Blk (W.alloc o) B t cs := h.kept (World.grownBy_alloc W o none) (by simp)
theorem Blk.drew {W : World} {B t : Nat} {cs : Array Value} (h : Blk W B t cs) : Blk W.drew B t cs := h
theorem Blk.below {W W' : World} {n B t : Nat} {cs : Array Value} (h : Blk W B t cs) (hb : Below n W W') (hn : B < n) : Blk W' B t cs := (hb.block B hn).trans h
theorem Blk.other {W : World} {B t : Nat} {cs : Array Value} (h : Blk W B t cs) {a : Addr} (hne : B ≠ a.block) (u : Value) : Blk (W.setCell a u) B t cs := (Below.heap_setCell W a u B hne).trans h
theorem Blk.set {W : World} {B t : Nat} {cs : Array Value} (h : Blk W B t cs) (i : Nat) (u : Value) : Blk (W.setCell ⟨B, i, none⟩ u) B t (cs.setIfInBounds i u) := by
  obtain ⟨hlt, hk⟩ := Array.getElem?_eq_some_iff.1 h
  show (W.heap.modify B _)[B]? = _
  rw [Array.getElem?_eq_getElem (by rw [Array.size_modify]; exact hlt), Array.getElem_modify_self, hk]
  rfl


/-- A symbol. -/
structure SymM where
  kind : Int
  set : BS
  sort : Int
/-- A production, with where its symbols lie. -/
structure ProdM where
  left : Int
  ra : Option Addr
  rc : Nat
  right : List SymM
  cons : ByteArray
  role : Int
  prefer : Bool
  avoid : Bool
  frm : Int
structure ForM where
  parent : Int
  at_ : Int
  child : Int
structure FolM where
  sort : Int
  not : BS
/-- A grammar, with where its lists lie. -/
structure GramM where
  sa : Option Addr
  sc : Nat
  sorts : List ByteArray
  pa : Option Addr
  pc : Nat
  prods : List ProdM
  start : Int
  fa : Option Addr
  fc : Nat
  forbid : List ForM
  wa : Option Addr
  wc : Nat
  follow : List FolM
inductive TreeM where
  | node (prod : Int) (byte : Int) (ka : Option Addr) (kc : Nat) (kids : List TreeM)

def strC (s : ByteArray) : Array Value := #[.string s]
def symC (x : SymM) : Array Value := #[.int .i64 x.kind, .int .u64 (wdI x.set 0), .int .u64 (wdI x.set 1), .int .u64 (wdI x.set 2), .int .u64 (wdI x.set 3), .int .i64 x.sort]
def prodC (p : ProdM) : Array Value := #[.int .i64 p.left, .slice p.ra p.right.length p.rc, .string p.cons, .int .i64 p.role, .bool p.prefer, .bool p.avoid, .int .i64 p.frm]
def forC (f : ForM) : Array Value := #[.int .i64 f.parent, .int .i64 f.at_, .int .i64 f.child]
def folC (f : FolM) : Array Value := #[.int .i64 f.sort, .int .u64 (wdI f.not 0), .int .u64 (wdI f.not 1), .int .u64 (wdI f.not 2), .int .u64 (wdI f.not 3)]
def gramC (g : GramM) : Array Value := #[.slice g.sa g.sorts.length g.sc, .slice g.pa g.prods.length g.pc, .int .i64 g.start, .slice g.fa g.forbid.length g.fc, .slice g.wa g.follow.length g.wc]
def treeC : TreeM → Array Value | .node p b ka kc kids => #[.int .i64 p, .int .u8 b, .slice ka kids.length kc]
def boolC (b : Bool) : Array Value := #[.bool b]
def intC (i : Int) : Array Value := #[.int .i64 i]

/-- Cells as they lie in memory. -/
def CellsAt (w : World) (b o : Nat) (cs : Array Value) : Prop := ∀ j v, cs[j]? = some v → w.cell? ⟨b, o + j, none⟩ = some v
theorem CellsAt.to {w W : World} {b o : Nat} {cs : Array Value} (h : CellsAt w b o cs) (hb : W.heap[b]? = w.heap[b]?) : CellsAt W b o cs :=
  fun j v hv => (World.cell?_of_block (w := w) hb).trans (h j v hv)
theorem CellsAt.lt {w : World} {b o : Nat} {cs : Array Value} (h : CellsAt w b o cs) (hn : 0 < cs.size) : b < w.heap.size := lt_of_cell (h 0 _ (Array.getElem?_eq_getElem hn))
theorem CellsAt.below {w W : World} {n b o : Nat} {cs : Array Value} (h : CellsAt w b o cs) (hB : Below n w W) (hn : b < n) : CellsAt W b o cs := h.to (hB.block b hn)

/-- Things as they lie behind a slice: k cells each; G: what else is said of them. -/
def RowOf {α : Type} (k : Nat) (cs : α → Array Value) (G : World → α → Prop) (w : World) (a : Option Addr) (l : List α) : Prop :=
  ∀ (i : Nat) (x : α), l[i]? = some x → ∃ b off, a = some ⟨b, off, none⟩ ∧ b < w.heap.size ∧ CellsAt w b (off + i * k) (cs x) ∧ G w x
theorem RowOf.nil {α : Type} {k : Nat} {cs : α → Array Value} {G : World → α → Prop} {w : World} (a : Option Addr) : RowOf k cs G w a [] := fun i x h => by simp at h
theorem RowOf.below {α : Type} {k : Nat} {cs : α → Array Value} {G : World → α → Prop} {w W : World} {a : Option Addr} {l : List α} (h : RowOf k cs G w a l) (hB : Below w.heap.size w W)
    (hG : ∀ x, G w x → G W x) : RowOf k cs G W a l := fun i x hx => by
  obtain ⟨b, off, rfl, hb, hc, hg⟩ := h i x hx
  exact ⟨b, off, rfl, Nat.lt_of_lt_of_le hb hB.size, hc.below hB hb, hG x hg⟩

abbrev NoG {α : Type} : World → α → Prop := fun _ _ => True
abbrev RowStr : World → Option Addr → List ByteArray → Prop := RowOf 1 strC NoG
abbrev RowSym : World → Option Addr → List SymM → Prop := RowOf 6 symC NoG
abbrev RowInt : World → Option Addr → List Int → Prop := RowOf 1 intC NoG
abbrev RowBool : World → Option Addr → List Bool → Prop := RowOf 1 boolC NoG
abbrev RowFor : World → Option Addr → List ForM → Prop := RowOf 3 forC NoG
abbrev RowFol : World → Option Addr → List FolM → Prop := RowOf 5 folC NoG
def ProdIn (w : World) (p : ProdM) : Prop := RowSym w p.ra p.right
abbrev RowProd : World → Option Addr → List ProdM → Prop := RowOf 7 prodC ProdIn

theorem RowOf.belowN {α : Type} {k : Nat} {cs : α → Array Value} {w W : World} {a : Option Addr} {l : List α} (h : RowOf k cs NoG w a l) (hB : Below w.heap.size w W) : RowOf k cs NoG W a l := h.below hB fun _ _ => trivial
theorem ProdIn.below {w W : World} {p : ProdM} (h : ProdIn w p) (hB : Below w.heap.size w W) : ProdIn W p := RowOf.belowN h hB
theorem RowProd.below {w W : World} {a : Option Addr} {l : List ProdM} (h : RowProd w a l) (hB : Below w.heap.size w W) : RowProd W a l := RowOf.below h hB fun _ h => h.below hB

/-- A grammar's lists, as they lie in memory. -/
structure GIn (w : World) (g : GramM) : Prop where
  sorts : RowStr w g.sa g.sorts
  prods : RowProd w g.pa g.prods
  forbid : RowFor w g.fa g.forbid
  follow : RowFol w g.wa g.follow
theorem GIn.below {w W : World} {g : GramM} (h : GIn w g) (hB : Below w.heap.size w W) : GIn W g :=
  ⟨h.sorts.belowN hB, h.prods.below hB, h.forbid.belowN hB, h.follow.belowN hB⟩

mutual
def TreeIn (w : World) : TreeM → Prop
  | .node _ _ ka _ kids => KidsIn w ka 0 kids
def KidsIn (w : World) (ka : Option Addr) (i : Nat) : List TreeM → Prop
  | [] => True
  | t :: r => (∃ b off, ka = some ⟨b, off, none⟩ ∧ b < w.heap.size ∧ CellsAt w b (off + i * 3) (treeC t)) ∧ TreeIn w t ∧ KidsIn w ka (i + 1) r
end
theorem kids_row (w : World) (ka : Option Addr) : ∀ (l : List TreeM) (i : Nat), KidsIn w ka i l ↔ ∀ (j : Nat) (x : TreeM), l[j]? = some x → (∃ b off, ka = some ⟨b, off, none⟩ ∧ b < w.heap.size ∧ CellsAt w b (off + (i + j) * 3) (treeC x)) ∧ TreeIn w x := by
  intro l
  induction l with
  | nil => intro i; simp [KidsIn]
  | cons t r ih =>
    intro i
    rw [KidsIn, ih (i + 1)]
    constructor
    · rintro ⟨h1, h2, h3⟩ j x hx
      cases j with
      | zero => simp at hx; subst hx; exact ⟨h1, h2⟩
      | succ j =>
        have := h3 j x (by simpa using hx)
        rw [show i + 1 + j = i + (j + 1) by omega] at this
        exact this
    · intro h
      refine ⟨(h 0 t rfl).1, (h 0 t rfl).2, fun j x hx => ?_⟩
      have := h (j + 1) x (by simpa using hx)
      rw [show i + (j + 1) = i + 1 + j by omega] at this
      exact this
abbrev RowTree : World → Option Addr → List TreeM → Prop := RowOf 3 treeC TreeIn
theorem tree_in (w : World) (p b : Int) (ka : Option Addr) (kc : Nat) (kids : List TreeM) : TreeIn w (.node p b ka kc kids) ↔ RowTree w ka kids := by
  rw [TreeIn, kids_row]
  constructor
  · intro h i x hx
    obtain ⟨⟨b, off, h1, h2, h3⟩, h4⟩ := h i x hx
    rw [Nat.zero_add] at h3
    exact ⟨b, off, h1, h2, h3, h4⟩
  · intro h i x hx
    obtain ⟨b, off, h1, h2, h3, h4⟩ := h i x hx
    exact ⟨⟨b, off, h1, h2, by rw [Nat.zero_add]; exact h3⟩, h4⟩
mutual
theorem TreeIn.below {w W : World} (hB : Below w.heap.size w W) : (t : TreeM) → TreeIn w t → TreeIn W t
  | .node _ _ ka _ kids, h => by rw [TreeIn] at h ⊢; exact KidsIn.below hB ka 0 kids h
theorem KidsIn.below {w W : World} (hB : Below w.heap.size w W) (ka : Option Addr) (i : Nat) : (l : List TreeM) → KidsIn w ka i l → KidsIn W ka i l
  | [], _ => by rw [KidsIn]; trivial
  | t :: r, h => by
    rw [KidsIn] at h ⊢
    obtain ⟨⟨b, off, h1, h2, h3⟩, h4, h5⟩ := h
    exact ⟨⟨b, off, h1, Nat.lt_of_lt_of_le h2 hB.size, h3.below hB h2⟩, TreeIn.below hB t h4, KidsIn.below hB ka (i + 1) r h5⟩
end
theorem RowTree.below {w W : World} {a : Option Addr} {l : List TreeM} (h : RowTree w a l) (hB : Below w.heap.size w W) : RowTree W a l := RowOf.below h hB fun t h => TreeIn.below hB t h
end Go.Proofs.YtodnlcbnbkkanaaGreatDoor
end
section
namespace Go.Proofs.YtodnlcbnbkkanaaGreatDoor
open Go Go.RowKit

/-- A function that says of each thing of a list whether p holds of it. -/
def Says {α : Type} (cs : α → Value) (p : α → Bool) (l : List α) (K : Nat) (lb : Array Value) (w : World) : Prop :=
  ∀ x, x ∈ l → ∀ W, Below w.heap.size w W → Calls Tryz.prog K (#[cs x] ++ lb) W fun e w' => e = .returned (.bool (p x)) ∧ Below W.heap.size W w'

theorem Says.later {α : Type} {cs : α → Value} {p : α → Bool} {l : List α} {K : Nat} {lb : Array Value} {w W : World} (h : Says cs p l K lb w) (hB : Below w.heap.size w W) : Says cs p l K lb W :=
  fun x hx V hV => h x hx V (hB.trans (hV.mono hB.size))

/-- Where the first thing stands of which q holds; -1: there is none. -/
def firstI {α : Type} (q : α → Bool) : List α → Int
  | [] => -1
  | x :: r => if q x then 0 else if firstI q r < 0 then -1 else firstI q r + 1
theorem firstI_lo {α : Type} (q : α → Bool) (l : List α) : -1 ≤ firstI q l := by
  induction l with
  | nil => simp [firstI]
  | cons x r ih => unfold firstI; split <;> (try split) <;> omega
theorem firstI_hit {α : Type} (q : α → Bool) : ∀ (l : List α) (m : Nat) (x : α), l[m]? = some x → q x = true → (∀ (j : Nat) (y : α), j < m → l[j]? = some y → q y = false) → firstI q l = m := by
  intro l
  induction l with
  | nil => intro m x h; simp at h
  | cons y r ih =>
    intro m x hx hq h
    cases m with
    | zero => simp at hx; subst hx; simp [firstI, hq]
    | succ m =>
      have h0 := h 0 y (by omega) rfl
      have := ih m x (by simpa using hx) hq (fun j z hj hz => h (j + 1) z (by omega) (by simpa using hz))
      rw [firstI, h0, this, if_neg (by simp), if_neg (by omega)]; omega
theorem firstI_none {α : Type} (q : α → Bool) : ∀ (l : List α), (∀ (j : Nat) (y : α), l[j]? = some y → q y = false) → firstI q l = -1 := by
  intro l
  induction l with
  | nil => intro _; rfl
  | cons y r ih =>
    intro h
    have := ih (fun j z hz => h (j + 1) z (by simpa using hz))
    rw [firstI, h 0 y rfl, this]; simp
theorem firstI_any {α : Type} (q : α → Bool) (l : List α) : decide (0 ≤ firstI q l) = l.any q := by
  induction l with
  | nil => rfl
  | cons x r ih =>
    rw [List.any_cons, ← ih, firstI]
    cases hq : q x
    · by_cases h : firstI q r < 0
      · have h1 : ¬ 0 ≤ firstI q r := by omega
        simp [h, h1]
      · have h1 : 0 ≤ firstI q r := by omega
        have h2 : 0 ≤ firstI q r + 1 := by omega
        simp [h, h1, h2]
    · simp
theorem firstI_lt {α : Type} (q : α → Bool) (l : List α) : firstI q l < l.length := by
  induction l with
  | nil => simp [firstI]
  | cons x r ih => unfold firstI; simp only [List.length_cons]; split <;> (try split) <;> omega
theorem any_not {α : Type} (p : α → Bool) (l : List α) : (!l.any fun x => !p x) = l.all p := by
  induction l with
  | nil => rfl
  | cons x r ih => simp only [List.any_cons, List.all_cons, ← ih]; cases p x <;> simp

def strV (s : ByteArray) : Value := .string s
def symV (x : SymM) : Value := .agg (symC x)
def prodV (x : ProdM) : Value := .agg (prodC x)
def forV (x : ForM) : Value := .agg (forC x)
def folV (x : FolM) : Value := .agg (folC x)
def treeV (x : TreeM) : Value := .agg (treeC x)
def gramV (x : GramM) : Value := .agg (gramC x)
theorem Str_at {w : World} {b o : Nat} {x : ByteArray} (h : CellsAt w b o (strC x)) : w.cell? ⟨b, o, none⟩ = some (.string x) :=
  h 0 _ rfl
theorem Int_at {w : World} {b o : Nat} {x : Int} (h : CellsAt w b o (intC x)) : w.cell? ⟨b, o, none⟩ = some (.int .i64 x) :=
  h 0 _ rfl
theorem Bool_at {w : World} {b o : Nat} {x : Bool} (h : CellsAt w b o (boolC x)) : w.cell? ⟨b, o, none⟩ = some (.bool x) :=
  h 0 _ rfl
theorem Sym_at {w : World} {b o : Nat} {x : SymM} (h : CellsAt w b o (symC x)) : w.cell? ⟨b, o, none⟩ = some (.int .i64 x.kind) ∧ w.cell? ⟨b, o + 1, none⟩ = some (.int .u64 (wdI x.set 0)) ∧ w.cell? ⟨b, o + 2, none⟩ = some (.int .u64 (wdI x.set 1)) ∧ w.cell? ⟨b, o + 3, none⟩ = some (.int .u64 (wdI x.set 2)) ∧ w.cell? ⟨b, o + 4, none⟩ = some (.int .u64 (wdI x.set 3)) ∧ w.cell? ⟨b, o + 5, none⟩ = some (.int .i64 x.sort) :=
  ⟨h 0 _ rfl, h 1 _ rfl, h 2 _ rfl, h 3 _ rfl, h 4 _ rfl, h 5 _ rfl⟩
theorem Prod_at {w : World} {b o : Nat} {x : ProdM} (h : CellsAt w b o (prodC x)) : w.cell? ⟨b, o, none⟩ = some (.int .i64 x.left) ∧ w.cell? ⟨b, o + 1, none⟩ = some (.slice x.ra x.right.length x.rc) ∧ w.cell? ⟨b, o + 2, none⟩ = some (.string x.cons) ∧ w.cell? ⟨b, o + 3, none⟩ = some (.int .i64 x.role) ∧ w.cell? ⟨b, o + 4, none⟩ = some (.bool x.prefer) ∧ w.cell? ⟨b, o + 5, none⟩ = some (.bool x.avoid) ∧ w.cell? ⟨b, o + 6, none⟩ = some (.int .i64 x.frm) :=
  ⟨h 0 _ rfl, h 1 _ rfl, h 2 _ rfl, h 3 _ rfl, h 4 _ rfl, h 5 _ rfl, h 6 _ rfl⟩
theorem For_at {w : World} {b o : Nat} {x : ForM} (h : CellsAt w b o (forC x)) : w.cell? ⟨b, o, none⟩ = some (.int .i64 x.parent) ∧ w.cell? ⟨b, o + 1, none⟩ = some (.int .i64 x.at_) ∧ w.cell? ⟨b, o + 2, none⟩ = some (.int .i64 x.child) :=
  ⟨h 0 _ rfl, h 1 _ rfl, h 2 _ rfl⟩
theorem Fol_at {w : World} {b o : Nat} {x : FolM} (h : CellsAt w b o (folC x)) : w.cell? ⟨b, o, none⟩ = some (.int .i64 x.sort) ∧ w.cell? ⟨b, o + 1, none⟩ = some (.int .u64 (wdI x.not 0)) ∧ w.cell? ⟨b, o + 2, none⟩ = some (.int .u64 (wdI x.not 1)) ∧ w.cell? ⟨b, o + 3, none⟩ = some (.int .u64 (wdI x.not 2)) ∧ w.cell? ⟨b, o + 4, none⟩ = some (.int .u64 (wdI x.not 3)) :=
  ⟨h 0 _ rfl, h 1 _ rfl, h 2 _ rfl, h 3 _ rfl, h 4 _ rfl⟩
theorem Tree_at {w : World} {b o : Nat} {p y : Int} {ka : Option Addr} {kc : Nat} {kids : List TreeM} (h : CellsAt w b o (treeC (.node p y ka kc kids))) : w.cell? ⟨b, o, none⟩ = some (.int .i64 p) ∧ w.cell? ⟨b, o + 1, none⟩ = some (.int .u8 y) ∧ w.cell? ⟨b, o + 2, none⟩ = some (.slice ka kids.length kc) :=
  ⟨h 0 _ rfl, h 1 _ rfl, h 2 _ rfl⟩
theorem Gram_at {w : World} {b o : Nat} {g : GramM} (h : CellsAt w b o (gramC g)) : w.cell? ⟨b, o, none⟩ = some (.slice g.sa g.sorts.length g.sc) ∧ w.cell? ⟨b, o + 1, none⟩ = some (.slice g.pa g.prods.length g.pc) ∧ w.cell? ⟨b, o + 2, none⟩ = some (.int .i64 g.start) ∧ w.cell? ⟨b, o + 3, none⟩ = some (.slice g.fa g.forbid.length g.fc) ∧ w.cell? ⟨b, o + 4, none⟩ = some (.slice g.wa g.follow.length g.wc) :=
  ⟨h 0 _ rfl, h 1 _ rfl, h 2 _ rfl, h 3 _ rfl, h 4 _ rfl⟩
end Go.Proofs.YtodnlcbnbkkanaaGreatDoor
end
section
namespace Go.Proofs.YtodnlcbnbkkanaaGreatDoor
open Go Go.RowKit

theorem part27 (a b c d : Int) (w : World) : (part 45 #[.int .u64 a, .int .u64 b, .int .u64 c, .int .u64 d] 0).run Tryz.prog w = .ok (.int .u64 a) w := by kernel_rfl
theorem part27_1 (a b c d : Int) (w : World) : (part 45 #[.int .u64 a, .int .u64 b, .int .u64 c, .int .u64 d] 1).run Tryz.prog w = .ok (.int .u64 b) w := by kernel_rfl
theorem part27_2 (a b c d : Int) (w : World) : (part 45 #[.int .u64 a, .int .u64 b, .int .u64 c, .int .u64 d] 2).run Tryz.prog w = .ok (.int .u64 c) w := by kernel_rfl
theorem part27_3 (a b c d : Int) (w : World) : (part 45 #[.int .u64 a, .int .u64 b, .int .u64 c, .int .u64 d] 3).run Tryz.prog w = .ok (.int .u64 d) w := by kernel_rfl
theorem size27 (w : World) : (sizeOf 45).run Tryz.prog w = .ok 1 w := by kernel_rfl

theorem eq_words (n : Nat) (a b c d a' b' c' d' : Int) (w : World) : (Op.equalIn (n + 2) 47 (.agg #[.int .u64 a, .int .u64 b, .int .u64 c, .int .u64 d]) (.agg #[.int .u64 a', .int .u64 b', .int .u64 c', .int .u64 d'])).run Tryz.prog w =
    .ok (a == a' && (b == b' && (c == c' && d == d'))) w := by
  have hu : Tryz.prog.underlying 47 = some (.array 4 45) := by kernel_rfl
  have h27 : Tryz.prog.underlying 45 = some (.int .u64) := by kernel_rfl
  rw [Op.equalIn]
  simp only [Sem.run_bind, run_underlying hu, Result.andThen_ok, size27]
  simp only [Std.Legacy.Range.forIn_eq_forIn_range', Std.Legacy.Range.size]
  rw [show List.range' 0 ((4 - 0 + 1 - 1) / 1) = [0, 1, 2, 3] from rfl]
  simp only [List.forIn_cons, List.forIn_nil, Sem.run_bind, Nat.reduceMul, part27, part27_1, part27_2, part27_3, Result.andThen_ok, run_equalIn_int w n 45 .u64 .u64 _ _ h27]
  by_cases h0 : a = a'
  · by_cases h1 : b = b'
    · by_cases h2 : c = c'
      · by_cases h3 : d = d' <;> simp [h0, h1, h2, h3, part27_1, part27_2, part27_3, run_equalIn_int _ n 45 .u64 .u64 _ _ h27]
      · simp [h0, h1, h2, part27_1, part27_2, part27_3, run_equalIn_int _ n 45 .u64 .u64 _ _ h27]
    · simp [h0, h1, part27_1, part27_2, part27_3, run_equalIn_int _ n 45 .u64 .u64 _ _ h27]
  · simp [h0, part27_1, part27_2, part27_3, run_equalIn_int _ n 45 .u64 .u64 _ _ h27]

theorem vset_beq (s t : BS) : (wdI s 0 == wdI t 0 && (wdI s 1 == wdI t 1 && (wdI s 2 == wdI t 2 && wdI s 3 == wdI t 3))) = (s == t) := by
  by_cases h : s = t
  · subst h; simp
  · have : (s == t) = false := by simpa using h
    rw [this]
    cases hx : (wdI s 0 == wdI t 0 && (wdI s 1 == wdI t 1 && (wdI s 2 == wdI t 2 && wdI s 3 == wdI t 3)))
    · rfl
    · simp only [Bool.and_eq_true, beq_iff_eq] at hx
      exact absurd (wdI_inj hx.1 hx.2.1 hx.2.2.1 hx.2.2.2) h

theorem eq_sets (s t : BS) (w : World) : (Op.equalIn 10000 47 (.agg #[.int .u64 (wdI s 0), .int .u64 (wdI s 1), .int .u64 (wdI s 2), .int .u64 (wdI s 3)]) (.agg #[.int .u64 (wdI t 0), .int .u64 (wdI t 1), .int .u64 (wdI t 2), .int .u64 (wdI t 3)])).run Tryz.prog w = .ok (s == t) w := by
  rw [← vset_beq]; exact eq_words 9998 _ _ _ _ _ _ _ _ w

end Go.Proofs.YtodnlcbnbkkanaaGreatDoor
end
section
namespace Go.Proofs.YtodnlcbnbkkanaaGreatDoor
open Go Go.RowKit

theorem cells_at (s : BS) (i : Nat) (h : i < 4) : [Value.int IntKind.u64 (wdI s 0), Value.int IntKind.u64 (wdI s 1), Value.int IntKind.u64 (wdI s 2), Value.int IntKind.u64 (wdI s 3)][i]? = some (.int .u64 (wdI s i)) := by
  have h : i = 0 ∨ i = 1 ∨ i = 2 ∨ i = 3 := by omega
  rcases h with rfl | rfl | rfl | rfl <;> rfl

theorem bit_I (s : BS) (b : Nat) (_hb : b < 256) : (bits .and .u64 (wdI s (b / 64) / 2 ^ (b % 64)) 1 == 1) = s.getLsbD b := by
  have e : wdI s (b / 64) / 2 ^ (b % 64) = ((wd s (b / 64)).toNat / 2 ^ (b % 64) : Nat) := by
    unfold wdI; simp
  have hlt := (wd s (b / 64)).isLt
  have hl2 : (wd s (b / 64)).toNat / 2 ^ (b % 64) < 18446744073709551616 := Nat.lt_of_le_of_lt (Nat.div_le_self _ _) hlt
  have h3 := wd_bit s (b / 64) (b % 64)
  have e4 : 64 * (b / 64) + b % 64 = b := by omega
  have e5 : b % 64 < 64 := by omega
  rw [e4] at h3
  simp only [e5, decide_true, Bool.true_and] at h3
  rw [← h3, BitVec.getLsbD, Nat.testBit_eq_decide_div_mod_eq, e]
  have e1 : (1 : Int) = ((1 : Nat) : Int) := rfl
  rw [e1, bits_and_u64_nat _ 1 hl2 (by omega), Nat.and_one_is_mod]
  generalize (wd s (b / 64)).toNat / 2 ^ (b % 64) = X
  have : X % 2 = 0 ∨ X % 2 = 1 := by omega
  rcases this with h | h <;> rw [h] <;> rfl

theorem bit2_I (s : BS) (b : Nat) (hb : b < 256) : (wdI s (b / 64) / 2 ^ (b % 64) % 2 == 1) = s.getLsbD b := by
  rw [← bit_I s b hb]
  have e : wdI s (b / 64) / 2 ^ (b % 64) = ((wd s (b / 64)).toNat / 2 ^ (b % 64) : Nat) := by
    unfold wdI; simp
  have hlt := (wd s (b / 64)).isLt
  have hl2 : (wd s (b / 64)).toNat / 2 ^ (b % 64) < 18446744073709551616 := Nat.lt_of_le_of_lt (Nat.div_le_self _ _) hlt
  rw [e]
  have e1 : (1 : Int) = ((1 : Nat) : Int) := rfl
  have h := bits_and_u64_nat _ 1 hl2 (by omega)
  rw [Nat.and_one_is_mod] at h
  rw [e1, h]
  generalize (wd s (b / 64)).toNat / 2 ^ (b % 64) = X
  have : X % 2 = 0 ∨ X % 2 = 1 := by omega
  rcases this with h | h
  · have : ((X : Int) % 2) = 0 := by omega
    simp [h, this]
  · have : ((X : Int) % 2) = 1 := by omega
    simp [h, this]

/-- Is a number one of so many? -/
def numB (n c : Int) : Bool := decide (0 ≤ n) && decide (n < c)

set_option maxHeartbeats 400000 in
theorem num_any (n c : Int) (w : World) : Calls Tryz.prog 90 #[.int .i64 n, .int .i64 c] w fun e w' => e = .returned (.bool (numB n c)) ∧ w = w' := by
  unfold numB
  by_cases h : 0 ≤ n
  · have h1 : decide (0 ≤ n) = true := by simpa using h
    rw [h1, Bool.true_and]
    by_cases h2 : n < c
    · have h3 : decide (n < c) = true := by simpa using h2
      rw [h3]
      go_enter Tryz.func90, Tryz.ntmps90
      go_wp2
      go_ret
      exact ⟨rfl, rfl⟩
    · have h3 : decide (n < c) = false := by simpa using h2
      rw [h3]
      go_enter Tryz.func90, Tryz.ntmps90
      go_wp2
      go_ret
      exact ⟨rfl, rfl⟩
  · have h1 : decide (0 ≤ n) = false := by simpa using h
    rw [h1, Bool.false_and]
    go_enter Tryz.func90, Tryz.ntmps90
    go_wp2
    go_ret
    exact ⟨rfl, rfl⟩

set_option maxHeartbeats 400000 in
theorem has_any (s : BS) (b : Nat) (hb : b < 256) (w : World) : Calls Tryz.prog 121 #[vset s, .int .u8 b] w fun e w' => e = .returned (.bool (s.getLsbD b)) ∧ Below w.heap.size w w' := by
  have hr := bit_I s b hb
  rw [← hr]; clear hr
  unfold vset
  have hc := cells_at s (b / 64) (by omega)
  go_enter Tryz.func121, Tryz.ntmps121
  go_wp2
  go_ret
  exact ⟨rfl, (Below.refl _ _).alloc (Nat.le_refl _) _⟩

theorem or_zero (s : BS) : (bits .or .u64 (bits .or .u64 (bits .or .u64 (wdI s 0) (wdI s 1)) (wdI s 2)) (wdI s 3) == 0) = (s == 0#256) := by
  have e : bits .or .u64 (bits .or .u64 (bits .or .u64 (wdI s 0) (wdI s 1)) (wdI s 2)) (wdI s 3) = ((wd s 0 ||| wd s 1 ||| wd s 2 ||| wd s 3).toNat : Int) := by
    unfold wdI; rw [bits_or_bv, bits_or_bv, bits_or_bv]
  rw [e, Bool.eq_iff_iff]
  simp only [beq_iff_eq]
  constructor
  · intro h
    have h0 : (wd s 0 ||| wd s 1 ||| wd s 2 ||| wd s 3) = 0#64 := by
      apply BitVec.eq_of_toNat_eq
      show _ = 0
      generalize (wd s 0 ||| wd s 1 ||| wd s 2 ||| wd s 3).toNat = X at h
      omega
    apply set_ext
    intro i hi
    have hz : ∀ j, (wd s 0).getLsbD j = false ∧ (wd s 1).getLsbD j = false ∧ (wd s 2).getLsbD j = false ∧ (wd s 3).getLsbD j = false := fun j => by
      have := congrArg (fun x => BitVec.getLsbD x j) h0
      simp only [BitVec.getLsbD_or, BitVec.getLsbD_zero, Bool.or_eq_false_iff] at this
      exact ⟨this.1.1.1, this.1.1.2, this.1.2, this.2⟩
    apply BitVec.eq_of_getLsbD_eq
    intro j hj
    have hw : (wd 0#256 i).getLsbD j = false := by rw [wd_bit]; simp
    rw [hw]
    have h : i = 0 ∨ i = 1 ∨ i = 2 ∨ i = 3 := by omega
    rcases h with rfl | rfl | rfl | rfl
    · exact (hz j).1
    · exact (hz j).2.1
    · exact (hz j).2.2.1
    · exact (hz j).2.2.2
  · rintro rfl
    decide

set_option maxHeartbeats 400000 in
theorem empty_any (s : BS) (w : World) : Calls Tryz.prog 44 #[vset s] w fun e w' => e = .returned (.bool (s == 0#256)) ∧ Below w.heap.size w w' := by
  have hr := or_zero s
  rw [← hr]; clear hr
  unfold vset
  go_enter Tryz.func44, Tryz.ntmps44
  go_wp2
  go_ret
  exact ⟨rfl, (Below.refl _ _).alloc (Nat.le_refl _) _⟩

set_option maxHeartbeats 400000 in
theorem rsort_any (g : GramM) (n : Int) (w : World) : Calls Tryz.prog 41 #[gramV g, .int .i64 n] w fun e w' => e = .returned (.bool (numB n g.sorts.length)) ∧ Below w.heap.size w w' := by
  have hB : Hid (Below w.heap.size w (w.alloc (.cells (gramC g) 27))) := (Below.refl _ _).alloc (Nat.le_refl _) _
  unfold numB gramV gramC at *
  by_cases h : 0 ≤ n
  · have h1 : decide (0 ≤ n) = true := by simpa using h
    rw [h1, Bool.true_and]
    by_cases h2 : n < g.sorts.length
    · have h3 : decide (n < g.sorts.length) = true := by simpa using h2
      rw [h3]
      go_enter Tryz.func41, Tryz.ntmps41
      go_wp2
      go_ret
      exact ⟨rfl, hB.out⟩
    · have h3 : decide (n < g.sorts.length) = false := by simpa using h2
      rw [h3]
      go_enter Tryz.func41, Tryz.ntmps41
      go_wp2
      go_ret
      exact ⟨rfl, hB.out⟩
  · have h1 : decide (0 ≤ n) = false := by simpa using h
    rw [h1, Bool.false_and]
    go_enter Tryz.func41, Tryz.ntmps41
    go_wp2
    go_ret
    exact ⟨rfl, hB.out⟩
end Go.Proofs.YtodnlcbnbkkanaaGreatDoor
end
section
namespace Go.Proofs.YtodnlcbnbkkanaaGreatDoor
open Go Go.RowKit

set_option maxRecDepth 100000 in
set_option maxHeartbeats 1000000 in
theorem notSym_any (x : SymM) (p : Bool) (K : Nat) (lb : Array Value) (eg : ∀ args w, (callFunc K args).run Tryz.prog w = .ok (.enter K args) w) (B : Nat) (w : World) (hb : w.cell? ⟨B, 0, none⟩ = some (.func (.func K) #[] lb))
    (H : ∀ W, Below w.heap.size w W → Calls Tryz.prog K (#[symV x] ++ lb) W fun e w' => e = .returned (.bool p) ∧ Below W.heap.size W w') :
    Calls Tryz.prog 165 #[symV x, .pointer (some ⟨B, 0, none⟩)] w fun e w' => e = .returned (.bool (!p)) ∧ Below w.heap.size w w' := by
  have hB := lt_of_cell hb
  have HH := Lib.hid H
  clear H
  unfold symV symC at *
  go_enter Tryz.func165, Tryz.ntmps165
  go_wp2_with (refine (HH.out _ ?_).mono ?_)
  · exact ((Below.refl _ _).alloc (Nat.le_refl _) _)
  rintro e w' ⟨rfl, hB2⟩
  go_wp2
  go_ret
  exact ⟨rfl, ((Below.refl _ _).alloc (Nat.le_refl _) _).trans (hB2.mono (by simp))⟩

set_option maxRecDepth 100000 in
set_option maxHeartbeats 4000000 in
theorem indexSym_any (a : Option Addr) (c : Nat) (l : List SymM) (q : SymM → Bool) (K : Nat) (lb : Array Value) (eg : ∀ args w, (callFunc K args).run Tryz.prog w = .ok (.enter K args) w) (w : World)
    (hl : RowSym w a l) (hn : l.length ≤ 1048576) (H : Says symV q l K lb w) :
    Calls Tryz.prog 100 #[.slice a l.length c, .func (.func K) #[] lb] w fun e w' => e = .returned (.int .i64 (firstI q l)) ∧ Below w.heap.size w w' := by
  have HL := Lib.hid hl
  have HH := Lib.hid H
  clear hl H
  obtain ⟨n, hln⟩ : ∃ n, n = l.length := ⟨_, rfl⟩
  rw [← hln] at hn ⊢
  have HN := Lib.hid hln
  clear hln
  go_enter Tryz.func100, Tryz.ntmps100
  go_wp2
  go_loopw [8] (fun i wr => ∃ (m : Nat), i = .int .i64 m ∧ m ≤ n ∧ Hid (∀ (j : Nat) y, j < m → l[j]? = some y → q y = false) ∧ Hid (Below w.heap.size w wr))
    (fun i _ => n - (intOf i).toNat)
  case atStart => exact ⟨0, rfl, Nat.zero_le _, Lib.hid (fun j y hj => by omega), Below.refl _ _⟩
  case round =>
    obtain ⟨m, rfl, hm, hS, hB⟩ := hrel
    by_cases hlt : m < n
    · have HX : Hid (∃ x, l[m]? = some x) := Lib.hid ⟨_, List.getElem?_eq_getElem (by rw [← HN.out]; exact hlt)⟩
      obtain ⟨x, hx⟩ := HX.out
      have HX := Lib.hid hx
      clear hx
      obtain ⟨b, off, rfl, hbw, hc, _⟩ := HL.out m x HX.out
      have hc := hc.below hB.out hbw
      have hbr := Nat.lt_of_lt_of_le hbw hB.out.size

      obtain ⟨c0, c1, c2, c3, c4, c5⟩ := Sym_at hc
      clear hc
      have HC := Lib.hid (HH.out x (List.mem_of_getElem? HX.out) wr hB.out)
      have HQ : Hid (∀ r, q x = r → r = false → ∀ (j : Nat) y, j < m + 1 → l[j]? = some y → q y = false) := Lib.hid (fun r hr hf j y hj hy => by
        by_cases e : j = m
        · subst e
          rw [HX.out] at hy
          cases hy
          rw [hr, hf]
        · exact hS.out j y (by omega) hy)
      have HT : Hid (q x = true → firstI q l = m) := Lib.hid (fun h => firstI_hit q l m x HX.out h hS.out)
      generalize q x = r at HC HQ HT
      clear HX hS HH HL
      unfold symV symC at *
      have n1 : (m : Int) < (n : Int) := by omega
      cases r with
      | true =>
        have HT2 := Lib.hid (HT.out rfl)
        clear HQ HT
        go_wp2_with fail
        refine HC.out.mono ?_
        rintro e w3 ⟨rfl, hB3⟩
        have HB3 := Lib.hid (hB.out.trans (hB3.mono hB.out.size))
        clear hB3
        go_wp2
        go_ret
        exact ⟨by rw [HT2.out]; rfl, HB3.out⟩
      | false =>
        have HQ2 := Lib.hid (HQ.out false rfl rfl)
        clear HT HQ
        go_wp2_with fail
        refine HC.out.mono ?_
        rintro e w3 ⟨rfl, hB3⟩
        have HB3 := Lib.hid (hB.out.trans (hB3.mono hB.out.size))
        clear hB3
        go_wp2
        go_roundw
        case rel => exact ⟨m + 1, by go_num, by omega, HQ2, HB3⟩
        case measure => simp [intOf]; omega
    · obtain rfl : m = n := by omega
      have HT := Lib.hid (firstI_none q l (fun j y hy => hS.out j y (by have := (List.getElem?_eq_some_iff.1 hy).1; have := HN.out; omega) hy))
      clear hS
      go_wp2
      go_ret
      exact ⟨by rw [HT.out]; rfl, hB.out⟩

set_option maxRecDepth 100000 in
set_option maxHeartbeats 1000000 in
theorem containsSym_any (a : Option Addr) (c : Nat) (l : List SymM) (q : SymM → Bool) (K : Nat) (lb : Array Value) (eg : ∀ args w, (callFunc K args).run Tryz.prog w = .ok (.enter K args) w) (w : World)
    (hl : RowSym w a l) (hn : l.length ≤ 1048576) (H : Says symV q l K lb w) :
    Calls Tryz.prog 70 #[.slice a l.length c, .func (.func K) #[] lb] w fun e w' => e = .returned (.bool (l.any q)) ∧ Below w.heap.size w w' := by
  have HC := Lib.hid (indexSym_any a c l q K lb eg w hl hn H)
  have HI := firstI_any q l
  obtain ⟨i, hi⟩ : ∃ i, i = firstI q l := ⟨_, rfl⟩
  rw [← hi] at HC HI
  clear hi hl H
  generalize l.any q = r at HI ⊢
  generalize l.length = n at *
  go_enter Tryz.func70, Tryz.ntmps70
  go_wp2_with fail
  refine HC.out.mono ?_
  rintro e w3 ⟨rfl, hB3⟩
  go_wp2
  go_ret
  exact ⟨rfl, hB3⟩

set_option maxRecDepth 100000 in
set_option maxHeartbeats 1000000 in
theorem allSym_any (a : Option Addr) (c : Nat) (l : List SymM) (p : SymM → Bool) (K : Nat) (lb : Array Value) (eg : ∀ args w, (callFunc K args).run Tryz.prog w = .ok (.enter K args) w) (w : World)
    (hl : RowSym w a l) (hn : l.length ≤ 1048576) (H : Says symV p l K lb w) :
    Calls Tryz.prog 150 #[.slice a l.length c, .func (.func K) #[] lb] w fun e w' => e = .returned (.bool (l.all p)) ∧ Below w.heap.size w w' := by
  have hB1 : Below w.heap.size w (w.alloc (.cells #[.func (.func K) #[] lb] 109)) := (Below.refl _ _).alloc (Nat.le_refl _) _
  have HC := Lib.hid (containsSym_any a c l (fun x => !p x) 165 #[.pointer (some ⟨w.heap.size, 0, none⟩)] (fun _ _ => by kernel_rfl) (w.alloc (.cells #[.func (.func K) #[] lb] 109)) (RowOf.belowN hl hB1) hn (fun x hx W hW =>
    notSym_any x (p x) K lb eg _ W (by have hb := Blk.new w 109 #[.func (.func K) #[] lb]; exact (hb.below hW hb.lt).cell 0) (fun V hV => H x hx V (hB1.trans ((hW.trans (hV.mono hW.size)).mono (by simp))))))
  have HA := any_not p l
  have HB := Lib.hid hB1
  clear hl H hB1
  generalize l.any (fun x => !p x) = r at HC HA
  rw [← HA]
  clear HA
  generalize l.length = n at *
  go_enter Tryz.func150, Tryz.ntmps150
  go_wp2_with fail
  refine HC.out.mono ?_
  rintro e w3 ⟨rfl, hB3⟩
  go_wp2
  go_ret
  exact ⟨rfl, HB.out.trans (hB3.mono HB.out.size)⟩
end Go.Proofs.YtodnlcbnbkkanaaGreatDoor
end
section
namespace Go.Proofs.YtodnlcbnbkkanaaGreatDoor
open Go Go.RowKit

theorem eq_zero (s : BS) (w : World) : (Op.equalIn 10000 47 (.agg #[.int .u64 (wdI s 0), .int .u64 (wdI s 1), .int .u64 (wdI s 2), .int .u64 (wdI s 3)]) (.agg #[.int .u64 0, .int .u64 0, .int .u64 0, .int .u64 0])).run Tryz.prog w = .ok (s == 0#256) w := by
  have h := eq_sets s 0#256 w
  rw [show wdI 0#256 0 = 0 by decide, show wdI 0#256 1 = 0 by decide, show wdI 0#256 2 = 0 by decide, show wdI 0#256 3 = 0 by decide] at h
  exact h

/-- May a symbol be? -/
def symB (n : Int) (s : SymM) : Bool := if s.kind = 0 then !(s.set == 0#256) && s.sort == 0 else if s.kind = 1 then s.set == 0#256 && numB s.sort n else false

set_option maxRecDepth 100000 in
set_option maxHeartbeats 1000000 in
theorem symMay_any (s : SymM) (n : Int) (w : World) : Calls Tryz.prog 152 #[symV s, .int .i64 n] w fun e w' => e = .returned (.bool (symB n s)) ∧ Below w.heap.size w w' := by
  obtain ⟨k, st, so⟩ := s
  have hB : Hid (Below w.heap.size w (w.alloc (.cells (symC ⟨k, st, so⟩) 60))) := (Below.refl _ _).alloc (Nat.le_refl _) _
  have HE := fun w' => Lib.hid (eq_zero st w')
  have HN := fun w' => Lib.hid (num_any so n w')
  unfold symV symC at *
  dsimp only at *
  by_cases h0 : k = 0
  · subst h0
    obtain ⟨r1, hr1⟩ : ∃ r, r = (st == 0#256) := ⟨_, rfl⟩
    obtain ⟨r2, hr2⟩ : ∃ r, r = (so == 0) := ⟨_, rfl⟩
    have HX : Hid (symB n ⟨0, st, so⟩ = (!r1 && r2)) := Lib.hid (by unfold symB; rw [if_pos rfl, hr1, hr2])
    rw [← hr1] at HE
    clear hr1
    have HE' := fun w' => (HE w').out
    rw [HX.out]
    cases r1 with
    | true =>
      clear hr2
      go_enter Tryz.func152, Tryz.ntmps152
      go_wp2
      go_ret
      exact ⟨rfl, hB.out⟩
    | false =>
      have hr3 := hr2.symm
      clear hr2
      cases r2 with
      | true =>
        go_enter Tryz.func152, Tryz.ntmps152
        go_wp2
        go_ret
        exact ⟨rfl, hB.out⟩
      | false =>
        go_enter Tryz.func152, Tryz.ntmps152
        go_wp2
        go_ret
        exact ⟨rfl, hB.out⟩
  · have k0 : (k == 0) = false := by simpa using h0
    by_cases h1 : k = 1
    · subst h1
      obtain ⟨r1, hr1⟩ : ∃ r, r = (st == 0#256) := ⟨_, rfl⟩
      have HX : Hid (symB n ⟨1, st, so⟩ = (r1 && numB so n)) := Lib.hid (by unfold symB; rw [if_neg (show ¬ (1 : Int) = 0 by decide), if_pos rfl, hr1])
      rw [← hr1] at HE
      clear hr1 h0
      have HE' := fun w' => (HE w').out
      rw [HX.out]
      generalize numB so n = r2 at *
      cases r1 with
      | true =>
        go_enter Tryz.func152, Tryz.ntmps152
        go_wp2_with (go_at_call 90; refine (HN _).out.mono ?_; rintro e w3 ⟨rfl, rfl⟩)
        go_ret
        exact ⟨rfl, hB.out⟩
      | false =>
        go_enter Tryz.func152, Tryz.ntmps152
        go_wp2
        go_ret
        exact ⟨rfl, hB.out⟩
    · have k1 : (k == 1) = false := by simpa using h1
      have HX : Hid (symB n ⟨k, st, so⟩ = false) := Lib.hid (by unfold symB; rw [if_neg h0, if_neg h1])
      rw [HX.out]
      clear h0 h1 HE HN
      go_enter Tryz.func152, Tryz.ntmps152
      go_wp2
      go_ret
      exact ⟨rfl, hB.out⟩

set_option maxRecDepth 100000 in
set_option maxHeartbeats 1000000 in
/-- prodMayBe's closure. -/
theorem f96_any (s : SymM) (n : Int) (B : Nat) (w : World) (hb : w.cell? ⟨B, 0, none⟩ = some (.int .i64 n)) : Calls Tryz.prog 151 #[symV s, .pointer (some ⟨B, 0, none⟩)] w fun e w' => e = .returned (.bool (symB n s)) ∧ Below w.heap.size w w' := by
  have HN := fun w' => Lib.hid (symMay_any s n w')
  have hB := lt_of_cell hb
  have HB : Hid (Below w.heap.size w (w.alloc (.cells (symC s) 60))) := (Below.refl _ _).alloc (Nat.le_refl _) _
  unfold symV symC at *
  generalize symB n s = r at *
  go_enter Tryz.func151, Tryz.ntmps151
  go_wp2_with (go_at_call 152; refine (HN _).out.mono ?_; rintro e w3 ⟨rfl, hB3⟩)
  go_ret
  exact ⟨rfl, HB.out.trans (hB3.mono HB.out.size)⟩

/-- Is it a sort, then one of which p holds? -/
def sortB (p : Int → Bool) (s : SymM) : Bool := !(s.kind == 1) || p s.sort

set_option maxRecDepth 100000 in
set_option maxHeartbeats 1000000 in
/-- eachSort's closure. -/
theorem f75_any (s : SymM) (p : Int → Bool) (K : Nat) (lb : Array Value) (eg : ∀ args w, (callFunc K args).run Tryz.prog w = .ok (.enter K args) w) (B : Nat) (w : World) (hb : w.cell? ⟨B, 0, none⟩ = some (.func (.func K) #[] lb))
    (H : s.kind = 1 → ∀ W, Below w.heap.size w W → Calls Tryz.prog K (#[.int .i64 s.sort] ++ lb) W fun e w' => e = .returned (.bool (p s.sort)) ∧ Below W.heap.size W w') :
    Calls Tryz.prog 174 #[symV s, .pointer (some ⟨B, 0, none⟩)] w fun e w' => e = .returned (.bool (sortB p s)) ∧ Below w.heap.size w w' := by
  have hB := lt_of_cell hb
  have HB : Hid (Below w.heap.size w (w.alloc (.cells (symC s) 60))) := (Below.refl _ _).alloc (Nat.le_refl _) _
  obtain ⟨k, st, so⟩ := s
  unfold symV symC sortB at *
  dsimp only at *
  by_cases h1 : k = 1
  · subst h1
    have HC := Lib.hid (H rfl _ HB.out)
    clear H
    generalize p so = r at *
    go_enter Tryz.func174, Tryz.ntmps174
    go_wp2_with (refine HC.out.mono ?_)
    rintro e w3 ⟨rfl, hB3⟩
    go_wp2
    go_ret
    exact ⟨by simp, HB.out.trans (hB3.mono HB.out.size)⟩
  · have k1 : (k == 1) = false := by simpa using h1
    have k2 : (k != 1) = true := by simpa using h1
    rw [k1]
    clear h1 H
    go_enter Tryz.func174, Tryz.ntmps174
    go_wp2
    go_ret
    exact ⟨rfl, HB.out⟩

theorem f105_any (n : Int) (w : World) : Calls Tryz.prog 167 #[.int .i64 n] w fun e w' => e = .returned (.bool false) ∧ Below w.heap.size w w' := by
  go_enter Tryz.func167, Tryz.ntmps167
  go_wp2
  go_ret
  exact ⟨rfl, Below.refl _ _⟩

/-- Does something hold of each sort among a production's symbols? -/
def sortsB (p : Int → Bool) (x : ProdM) : Bool := x.right.all (sortB p)

set_option maxRecDepth 100000 in
set_option maxHeartbeats 1000000 in
theorem eachSort_any (x : ProdM) (p : Int → Bool) (K : Nat) (lb : Array Value) (eg : ∀ args w, (callFunc K args).run Tryz.prog w = .ok (.enter K args) w) (w : World) (hx : ProdIn w x) (hn : x.right.length ≤ 1048576)
    (H : ∀ s, s ∈ x.right → s.kind = 1 → ∀ W, Below w.heap.size w W → Calls Tryz.prog K (#[.int .i64 s.sort] ++ lb) W fun e w' => e = .returned (.bool (p s.sort)) ∧ Below W.heap.size W w') :
    Calls Tryz.prog 166 #[prodV x, .func (.func K) #[] lb] w fun e w' => e = .returned (.bool (sortsB p x)) ∧ Below w.heap.size w w' := by
  have hB1 : Below w.heap.size w ((w.alloc (.cells (prodC x) 65)).alloc (.cells #[.func (.func K) #[] lb] 67)) := ((Below.refl _ _).alloc (Nat.le_refl _) _).alloc (by simp) _
  have HC := Lib.hid (allSym_any x.ra x.rc x.right (sortB p) 174 #[.pointer (some ⟨w.heap.size + 1, 0, none⟩)] (fun _ _ => by kernel_rfl) ((w.alloc (.cells (prodC x) 65)).alloc (.cells #[.func (.func K) #[] lb] 67)) (hx.below hB1) hn (fun s hs W hW =>
    f75_any s p K lb eg (w.heap.size + 1) W (by
      have hb := Blk.new (w.alloc (.cells (prodC x) 65)) 67 #[.func (.func K) #[] lb]
      rw [World.size_alloc] at hb
      exact (hb.below hW hb.lt).cell 0) (fun hk V hV => H s hs hk V (hB1.trans ((hW.trans (hV.mono hW.size)).mono (by simp; omega))))))
  have HB := Lib.hid hB1
  clear hx H hB1
  unfold sortsB
  unfold prodV prodC at *
  generalize x.right.all (sortB p) = r at *
  generalize x.right.length = n at *
  go_enter Tryz.func166, Tryz.ntmps166
  go_wp2_with fail
  refine HC.out.mono ?_
  rintro e w3 ⟨rfl, hB3⟩
  go_wp2
  go_ret
  exact ⟨rfl, HB.out.trans (hB3.mono HB.out.size)⟩
end Go.Proofs.YtodnlcbnbkkanaaGreatDoor
end
section
namespace Go.Proofs.YtodnlcbnbkkanaaGreatDoor
open Go Go.RowKit

set_option maxRecDepth 100000 in
set_option maxHeartbeats 1000000 in
theorem notProd_any (x : ProdM) (p : Bool) (K : Nat) (lb : Array Value) (eg : ∀ args w, (callFunc K args).run Tryz.prog w = .ok (.enter K args) w) (B : Nat) (w : World) (hb : w.cell? ⟨B, 0, none⟩ = some (.func (.func K) #[] lb))
    (H : ∀ W, Below w.heap.size w W → Calls Tryz.prog K (#[prodV x] ++ lb) W fun e w' => e = .returned (.bool p) ∧ Below W.heap.size W w') :
    Calls Tryz.prog 149 #[prodV x, .pointer (some ⟨B, 0, none⟩)] w fun e w' => e = .returned (.bool (!p)) ∧ Below w.heap.size w w' := by
  have hB := lt_of_cell hb
  have HH := Lib.hid H
  clear H
  unfold prodV prodC at *
  go_enter Tryz.func149, Tryz.ntmps149
  go_wp2_with (refine (HH.out _ ?_).mono ?_)
  · exact ((Below.refl _ _).alloc (Nat.le_refl _) _)
  rintro e w' ⟨rfl, hB2⟩
  go_wp2
  go_ret
  exact ⟨rfl, ((Below.refl _ _).alloc (Nat.le_refl _) _).trans (hB2.mono (by simp))⟩

set_option maxRecDepth 100000 in
set_option maxHeartbeats 4000000 in
theorem indexProd_any (a : Option Addr) (c : Nat) (l : List ProdM) (q : ProdM → Bool) (K : Nat) (lb : Array Value) (eg : ∀ args w, (callFunc K args).run Tryz.prog w = .ok (.enter K args) w) (w : World)
    (hl : RowProd w a l) (hn : l.length ≤ 1048576) (H : Says prodV q l K lb w) :
    Calls Tryz.prog 133 #[.slice a l.length c, .func (.func K) #[] lb] w fun e w' => e = .returned (.int .i64 (firstI q l)) ∧ Below w.heap.size w w' := by
  have HL := Lib.hid hl
  have HH := Lib.hid H
  clear hl H
  obtain ⟨n, hln⟩ : ∃ n, n = l.length := ⟨_, rfl⟩
  rw [← hln] at hn ⊢
  have HN := Lib.hid hln
  clear hln
  go_enter Tryz.func133, Tryz.ntmps133
  go_wp2
  go_loopw [8] (fun i wr => ∃ (m : Nat), i = .int .i64 m ∧ m ≤ n ∧ Hid (∀ (j : Nat) y, j < m → l[j]? = some y → q y = false) ∧ Hid (Below w.heap.size w wr))
    (fun i _ => n - (intOf i).toNat)
  case atStart => exact ⟨0, rfl, Nat.zero_le _, Lib.hid (fun j y hj => by omega), Below.refl _ _⟩
  case round =>
    obtain ⟨m, rfl, hm, hS, hB⟩ := hrel
    by_cases hlt : m < n
    · have HX : Hid (∃ x, l[m]? = some x) := Lib.hid ⟨_, List.getElem?_eq_getElem (by rw [← HN.out]; exact hlt)⟩
      obtain ⟨x, hx⟩ := HX.out
      have HX := Lib.hid hx
      clear hx
      obtain ⟨b, off, rfl, hbw, hc, _⟩ := HL.out m x HX.out
      have hc := hc.below hB.out hbw
      have hbr := Nat.lt_of_lt_of_le hbw hB.out.size

      obtain ⟨c0, c1, c2, c3, c4, c5, c6⟩ := Prod_at hc
      clear hc
      have HC := Lib.hid (HH.out x (List.mem_of_getElem? HX.out) wr hB.out)
      have HQ : Hid (∀ r, q x = r → r = false → ∀ (j : Nat) y, j < m + 1 → l[j]? = some y → q y = false) := Lib.hid (fun r hr hf j y hj hy => by
        by_cases e : j = m
        · subst e
          rw [HX.out] at hy
          cases hy
          rw [hr, hf]
        · exact hS.out j y (by omega) hy)
      have HT : Hid (q x = true → firstI q l = m) := Lib.hid (fun h => firstI_hit q l m x HX.out h hS.out)
      generalize q x = r at HC HQ HT
      clear HX hS HH HL
      unfold prodV prodC at *
      have n1 : (m : Int) < (n : Int) := by omega
      cases r with
      | true =>
        have HT2 := Lib.hid (HT.out rfl)
        clear HQ HT
        go_wp2_with fail
        refine HC.out.mono ?_
        rintro e w3 ⟨rfl, hB3⟩
        have HB3 := Lib.hid (hB.out.trans (hB3.mono hB.out.size))
        clear hB3
        go_wp2
        go_ret
        exact ⟨by rw [HT2.out]; rfl, HB3.out⟩
      | false =>
        have HQ2 := Lib.hid (HQ.out false rfl rfl)
        clear HT HQ
        go_wp2_with fail
        refine HC.out.mono ?_
        rintro e w3 ⟨rfl, hB3⟩
        have HB3 := Lib.hid (hB.out.trans (hB3.mono hB.out.size))
        clear hB3
        go_wp2
        go_roundw
        case rel => exact ⟨m + 1, by go_num, by omega, HQ2, HB3⟩
        case measure => simp [intOf]; omega
    · obtain rfl : m = n := by omega
      have HT := Lib.hid (firstI_none q l (fun j y hy => hS.out j y (by have := (List.getElem?_eq_some_iff.1 hy).1; have := HN.out; omega) hy))
      clear hS
      go_wp2
      go_ret
      exact ⟨by rw [HT.out]; rfl, hB.out⟩

set_option maxRecDepth 100000 in
set_option maxHeartbeats 1000000 in
theorem containsProd_any (a : Option Addr) (c : Nat) (l : List ProdM) (q : ProdM → Bool) (K : Nat) (lb : Array Value) (eg : ∀ args w, (callFunc K args).run Tryz.prog w = .ok (.enter K args) w) (w : World)
    (hl : RowProd w a l) (hn : l.length ≤ 1048576) (H : Says prodV q l K lb w) :
    Calls Tryz.prog 148 #[.slice a l.length c, .func (.func K) #[] lb] w fun e w' => e = .returned (.bool (l.any q)) ∧ Below w.heap.size w w' := by
  have HC := Lib.hid (indexProd_any a c l q K lb eg w hl hn H)
  have HI := firstI_any q l
  obtain ⟨i, hi⟩ : ∃ i, i = firstI q l := ⟨_, rfl⟩
  rw [← hi] at HC HI
  clear hi hl H
  generalize l.any q = r at HI ⊢
  generalize l.length = n at *
  go_enter Tryz.func148, Tryz.ntmps148
  go_wp2_with fail
  refine HC.out.mono ?_
  rintro e w3 ⟨rfl, hB3⟩
  go_wp2
  go_ret
  exact ⟨rfl, hB3⟩

set_option maxRecDepth 100000 in
set_option maxHeartbeats 1000000 in
theorem allProd_any (a : Option Addr) (c : Nat) (l : List ProdM) (p : ProdM → Bool) (K : Nat) (lb : Array Value) (eg : ∀ args w, (callFunc K args).run Tryz.prog w = .ok (.enter K args) w) (w : World)
    (hl : RowProd w a l) (hn : l.length ≤ 1048576) (H : Says prodV p l K lb w) :
    Calls Tryz.prog 125 #[.slice a l.length c, .func (.func K) #[] lb] w fun e w' => e = .returned (.bool (l.all p)) ∧ Below w.heap.size w w' := by
  have hB1 : Below w.heap.size w (w.alloc (.cells #[.func (.func K) #[] lb] 91)) := (Below.refl _ _).alloc (Nat.le_refl _) _
  have HC := Lib.hid (containsProd_any a c l (fun x => !p x) 149 #[.pointer (some ⟨w.heap.size, 0, none⟩)] (fun _ _ => by kernel_rfl) (w.alloc (.cells #[.func (.func K) #[] lb] 91)) (RowProd.below hl hB1) hn (fun x hx W hW =>
    notProd_any x (p x) K lb eg _ W (by have hb := Blk.new w 91 #[.func (.func K) #[] lb]; exact (hb.below hW hb.lt).cell 0) (fun V hV => H x hx V (hB1.trans ((hW.trans (hV.mono hW.size)).mono (by simp))))))
  have HA := any_not p l
  have HB := Lib.hid hB1
  clear hl H hB1
  generalize l.any (fun x => !p x) = r at HC HA
  rw [← HA]
  clear HA
  generalize l.length = n at *
  go_enter Tryz.func125, Tryz.ntmps125
  go_wp2_with fail
  refine HC.out.mono ?_
  rintro e w3 ⟨rfl, hB3⟩
  go_wp2
  go_ret
  exact ⟨rfl, HB.out.trans (hB3.mono HB.out.size)⟩
end Go.Proofs.YtodnlcbnbkkanaaGreatDoor
end
section
namespace Go.Proofs.YtodnlcbnbkkanaaGreatDoor
open Go Go.RowKit

/-- May a production's role be? -/
def roleB (x : ProdM) : Bool := if x.role < 0 then false else if 11 < x.role then false else if x.role = 0 then decide (x.cons.size ≤ 64) else if x.role = 11 ∧ sortsB (fun _ => false) x = false then false else x.cons.toList.isEmpty

set_option maxRecDepth 100000 in
set_option maxHeartbeats 2000000 in
theorem role_any (x : ProdM) (w : World) (hx : ProdIn w x) (hn : x.right.length ≤ 1048576) : Calls Tryz.prog 153 #[prodV x] w fun e w' => e = .returned (.bool (roleB x)) ∧ Below w.heap.size w w' := by
  have hB1 : Below w.heap.size w (w.alloc (.cells (prodC x) 65)) := (Below.refl _ _).alloc (Nat.le_refl _) _
  have HC := Lib.hid (eachSort_any x (fun _ => false) 167 #[] (fun _ _ => by kernel_rfl) _ (hx.below hB1) hn (fun s hs hk W hW => f105_any s.sort W))
  have HB := Lib.hid hB1
  have HR : Hid (roleB x = if x.role < 0 then false else if 11 < x.role then false else if x.role = 0 then decide (x.cons.size ≤ 64) else if x.role = 11 ∧ sortsB (fun _ => false) x = false then false else x.cons.toList.isEmpty) := Lib.hid rfl
  clear hx hB1 hn
  unfold prodV at *
  generalize sortsB (fun _ => false) x = rs at *
  generalize roleB x = r at *
  obtain ⟨left, ra, rc, right, cons, role, prefer, avoid, frm⟩ := x
  unfold prodC at *
  dsimp only at *
  generalize right.length = n at *
  by_cases h0 : role < 0
  · have HR2 : Hid (r = false) := Lib.hid (by rw [HR.out, if_pos h0])
    clear HR HC
    go_enter Tryz.func153, Tryz.ntmps153
    go_wp2
    go_ret
    exact ⟨by rw [HR2.out]; try rfl, HB.out⟩
  · by_cases h1 : 11 < role
    · have HR2 : Hid (r = false) := Lib.hid (by rw [HR.out, if_neg h0, if_pos h1])
      clear HR HC
      go_enter Tryz.func153, Tryz.ntmps153
      go_wp2
      go_ret
      exact ⟨by rw [HR2.out]; try rfl, HB.out⟩
    · by_cases h2 : role = 0
      · subst h2
        by_cases h3 : cons.size ≤ 64
        · have HR2 : Hid (r = true) := Lib.hid (by rw [HR.out, if_neg h0, if_neg h1, if_pos rfl]; simpa using h3)
          clear HR HC
          have h4 : (cons.size : Int) ≤ 64 := by omega
          go_enter Tryz.func153, Tryz.ntmps153
          go_wp2
          go_ret
          exact ⟨by rw [HR2.out]; try rfl, HB.out⟩
        · have HR2 : Hid (r = false) := Lib.hid (by rw [HR.out, if_neg h0, if_neg h1, if_pos rfl]; simpa using h3)
          clear HR HC
          have h4 : ¬ (cons.size : Int) ≤ 64 := by omega
          go_enter Tryz.func153, Tryz.ntmps153
          go_wp2
          go_ret
          exact ⟨by rw [HR2.out]; try rfl, HB.out⟩
      · have k0 : (role == 0) = false := by simpa using h2
        by_cases h3 : role = 11
        · subst h3
          cases rs with
          | false =>
            have HR2 : Hid (r = false) := Lib.hid (by rw [HR.out, if_neg h0, if_neg h1, if_neg h2, if_pos ⟨rfl, rfl⟩])
            clear HR h2
            go_enter Tryz.func153, Tryz.ntmps153
            go_wp2_with fail
            refine HC.out.mono ?_
            rintro e w3 ⟨rfl, hB3⟩
            have HB3 := Lib.hid (HB.out.trans (hB3.mono HB.out.size))
            clear hB3
            go_wp2
            go_ret
            exact ⟨by rw [HR2.out]; try rfl, HB3.out⟩
          | true =>
            have HR2 : Hid (r = cons.toList.isEmpty) := Lib.hid (by rw [HR.out, if_neg h0, if_neg h1, if_neg h2, if_neg (fun h => by cases h.2)])
            clear HR h2
            go_enter Tryz.func153, Tryz.ntmps153
            go_wp2_with fail
            refine HC.out.mono ?_
            rintro e w3 ⟨rfl, hB3⟩
            have HB3 := Lib.hid (HB.out.trans (hB3.mono HB.out.size))
            have c2 : w3.cell? ⟨w.heap.size, 2, none⟩ = some (.string cons) := hB3.cell (p := ⟨w.heap.size, 2, none⟩) (by simp) |>.trans ((Blk.new w 65 _).cell 2)
            clear hB3
            go_wp2
            go_ret
            exact ⟨by rw [HR2.out]; try rfl, HB3.out⟩
        · have k1 : (role == 11) = false := by simpa using h3
          have HR2 : Hid (r = cons.toList.isEmpty) := Lib.hid (by rw [HR.out, if_neg h0, if_neg h1, if_neg h2, if_neg (fun h => h3 h.1)])
          clear HR h2 h3 HC
          go_enter Tryz.func153, Tryz.ntmps153
          go_wp2
          go_ret
          exact ⟨by rw [HR2.out]; try rfl, HB.out⟩

/-- May a production be, where there are so many sorts? -/
def prodB (n : Int) (x : ProdM) : Bool := numB x.left n && (decide (x.right.length ≤ 30) && (x.right.all (symB n) && (roleB x && (decide (-1 ≤ x.frm) && !(x.prefer && x.avoid)))))

set_option maxRecDepth 100000 in
set_option maxHeartbeats 4000000 in
theorem prodMay_any (x : ProdM) (m : Int) (w : World) (hx : ProdIn w x) (hn : x.right.length ≤ 1048576) : Calls Tryz.prog 127 #[prodV x, .int .i64 m] w fun e w' => e = .returned (.bool (prodB m x)) ∧ Below w.heap.size w w' := by
  have hB1 : Below w.heap.size w ((w.alloc (.cells (prodC x) 65)).alloc (.cells #[.int .i64 m] 3)) := ((Below.refl _ _).alloc (Nat.le_refl _) _).alloc (by simp) _
  have HS := Lib.hid (allSym_any x.ra x.rc x.right (symB m) 151 #[.pointer (some ⟨w.heap.size + 1, 0, none⟩)] (fun _ _ => by kernel_rfl) _ (hx.below hB1) hn (fun s hs W hW =>
    f96_any s m (w.heap.size + 1) W (by
      have hb := Blk.new (w.alloc (.cells (prodC x) 65)) 3 #[.int .i64 m]
      rw [World.size_alloc] at hb
      exact (hb.below hW hb.lt).cell 0)))
  have HR := Lib.hid (fun W (hW : Below w.heap.size w W) => role_any x W (hx.below hW) hn)
  have HN := fun w' => Lib.hid (num_any x.left m w')
  have HB := Lib.hid hB1
  have HP : Hid (prodB m x = (numB x.left m && (decide (x.right.length ≤ 30) && (x.right.all (symB m) && (roleB x && (decide (-1 ≤ x.frm) && !(x.prefer && x.avoid))))))) := Lib.hid rfl
  clear hx hB1 hn
  unfold prodV at *
  generalize x.right.all (symB m) = rs at *
  generalize roleB x = rr at *
  generalize prodB m x = r at *
  obtain ⟨left, ra, rc, right, cons, role, prefer, avoid, frm⟩ := x
  unfold prodC at *
  dsimp only at *
  generalize right.length = n at *
  generalize numB left m = rn at *
  cases rn with
  | false =>
    have HP2 : Hid (r = false) := Lib.hid (by rw [HP.out]; rfl)
    clear HP HS HR
    go_enter Tryz.func127, Tryz.ntmps127
    go_wp2_with (go_at_call 90; refine (HN _).out.mono ?_; rintro e w3 ⟨rfl, rfl⟩)
    go_ret
    exact ⟨by rw [HP2.out]; try rfl, HB.out⟩
  | true =>
    by_cases h1 : n ≤ 30
    · have h2 : decide (n ≤ 30) = true := by simpa using h1
      have hi : (n : Int) ≤ 30 := by omega
      have HP2 : Hid (r = (rs && (rr && (decide (-1 ≤ frm) && !(prefer && avoid))))) := Lib.hid (by rw [HP.out, h2, Bool.true_and, Bool.true_and])
      clear HP h2
      cases rs with
      | false =>
        have HP3 : Hid (r = false) := Lib.hid (by rw [HP2.out]; rfl)
        clear HP2 HR
        go_enter Tryz.func127, Tryz.ntmps127
        go_wp2_with (go_at_call 90; refine (HN _).out.mono ?_; rintro e w3 ⟨rfl, rfl⟩)
        refine HS.out.mono ?_
        rintro e w4 ⟨rfl, hB4⟩
        have HB4 := Lib.hid (HB.out.trans (hB4.mono HB.out.size))
        clear hB4
        go_wp2
        go_ret
        exact ⟨by rw [HP3.out]; try rfl, HB4.out⟩
      | true =>
        have hP : ∀ (w4 : World), Below ((w.alloc (.cells #[.int .i64 left, .slice ra n rc, .string cons, .int .i64 role, .bool prefer, .bool avoid, .int .i64 frm] 65)).alloc (.cells #[.int .i64 m] 3)).heap.size ((w.alloc (.cells #[.int .i64 left, .slice ra n rc, .string cons, .int .i64 role, .bool prefer, .bool avoid, .int .i64 frm] 65)).alloc (.cells #[.int .i64 m] 3)) w4 →
            Blk w4 w.heap.size 65 #[.int .i64 left, .slice ra n rc, .string cons, .int .i64 role, .bool prefer, .bool avoid, .int .i64 frm] := fun w4 h => ((Blk.new w 65 _).alloc _).below h (by simp; omega)
        have HPb := Lib.hid hP
        clear hP
        cases rr with
        | false =>
          have HP3 : Hid (r = false) := Lib.hid (by rw [HP2.out]; rfl)
          clear HP2
          go_enter Tryz.func127, Tryz.ntmps127
          go_wp2_with (go_at_call 90; refine (HN _).out.mono ?_; rintro e w3 ⟨rfl, rfl⟩)
          refine HS.out.mono ?_
          rintro e w4 ⟨rfl, hB4⟩
          have hb := HPb.out w4 hB4
          have HB4 := Lib.hid (HB.out.trans (hB4.mono HB.out.size))
          have c0 := hb.cell 0
          have c1 := hb.cell 1
          have c2 := hb.cell 2
          have c3 := hb.cell 3
          have c4 := hb.cell 4
          have c5 := hb.cell 5
          have c6 := hb.cell 6
          simp only [List.getElem?_toArray, List.getElem?_cons_zero, List.getElem?_cons_succ] at c0 c1 c2 c3 c4 c5 c6
          clear hB4 hb
          go_wp2_with (go_at_call 153; refine (HR.out _ HB4.out).mono ?_; rintro e w5 ⟨rfl, hB5⟩)
          have HB5 := Lib.hid (HB4.out.trans (hB5.mono HB4.out.size))
          clear hB5
          go_wp2
          go_ret
          exact ⟨by rw [HP3.out]; try rfl, HB5.out⟩
        | true =>
          have HP3 : Hid (r = (decide (-1 ≤ frm) && !(prefer && avoid))) := Lib.hid (by rw [HP2.out]; rfl)
          clear HP2
          go_enter Tryz.func127, Tryz.ntmps127
          go_wp2_with (go_at_call 90; refine (HN _).out.mono ?_; rintro e w3 ⟨rfl, rfl⟩)
          refine HS.out.mono ?_
          rintro e w4 ⟨rfl, hB4⟩
          have hb := HPb.out w4 hB4
          have HB4 := Lib.hid (HB.out.trans (hB4.mono HB.out.size))
          have c0 := hb.cell 0
          have c1 := hb.cell 1
          have c2 := hb.cell 2
          have c3 := hb.cell 3
          have c4 := hb.cell 4
          have c5 := hb.cell 5
          have c6 := hb.cell 6
          have hw4 := hb.lt
          simp only [List.getElem?_toArray, List.getElem?_cons_zero, List.getElem?_cons_succ] at c0 c1 c2 c3 c4 c5 c6
          clear hB4
          have HR4 := Lib.hid (HR.out _ HB4.out)
          clear HR
          have HBk := Lib.hid hb
          clear hb
          go_wp2_with fail
          refine HR4.out.mono ?_
          rintro e w5 ⟨rfl, hB5⟩
          have hb := HBk.out.below hB5 HBk.out.lt
          have d4 := hb.cell 4
          have d5 := hb.cell 5
          have d6 := hb.cell 6
          simp only [List.getElem?_toArray, List.getElem?_cons_zero, List.getElem?_cons_succ] at d4 d5 d6
          have HB5 := Lib.hid (HB4.out.trans (hB5.mono HB4.out.size))
          clear hB5 hb c0 c1 c2 c3 c4 c5 c6
          by_cases h3 : -1 ≤ frm
          · have h4 : decide (-1 ≤ frm) = true := by simpa using h3
            have HP4 : Hid (r = !(prefer && avoid)) := Lib.hid (by rw [HP3.out, h4, Bool.true_and])
            clear HP3 h4
            cases prefer with
            | false =>
              go_wp2
              go_ret
              exact ⟨by rw [HP4.out]; try rfl, HB5.out⟩
            | true =>
              cases avoid with
              | false =>
                go_wp2
                go_ret
                exact ⟨by rw [HP4.out]; try rfl, HB5.out⟩
              | true =>
                go_wp2
                go_ret
                exact ⟨by rw [HP4.out]; try rfl, HB5.out⟩
          · have h4 : decide (-1 ≤ frm) = false := by simpa using h3
            have HP4 : Hid (r = false) := Lib.hid (by rw [HP3.out, h4, Bool.false_and])
            clear HP3
            go_wp2
            go_ret
            exact ⟨by rw [HP4.out]; try rfl, HB5.out⟩
    · have h2 : decide (n ≤ 30) = false := by simpa using h1
      have HP2 : Hid (r = false) := Lib.hid (by rw [HP.out, h2]; rfl)
      have hi : ¬ (n : Int) ≤ 30 := by omega
      clear HP HS HR h1 h2
      go_enter Tryz.func127, Tryz.ntmps127
      go_wp2_with (go_at_call 90; refine (HN _).out.mono ?_; rintro e w3 ⟨rfl, rfl⟩)
      go_ret
      exact ⟨by rw [HP2.out]; try rfl, HB.out⟩
end Go.Proofs.YtodnlcbnbkkanaaGreatDoor
end
section
namespace Go.Proofs.YtodnlcbnbkkanaaGreatDoor
open Go Go.RowKit

set_option maxRecDepth 100000 in
set_option maxHeartbeats 1000000 in
theorem notFor_any (x : ForM) (p : Bool) (K : Nat) (lb : Array Value) (eg : ∀ args w, (callFunc K args).run Tryz.prog w = .ok (.enter K args) w) (B : Nat) (w : World) (hb : w.cell? ⟨B, 0, none⟩ = some (.func (.func K) #[] lb))
    (H : ∀ W, Below w.heap.size w W → Calls Tryz.prog K (#[forV x] ++ lb) W fun e w' => e = .returned (.bool p) ∧ Below W.heap.size W w') :
    Calls Tryz.prog 155 #[forV x, .pointer (some ⟨B, 0, none⟩)] w fun e w' => e = .returned (.bool (!p)) ∧ Below w.heap.size w w' := by
  have hB := lt_of_cell hb
  have HH := Lib.hid H
  clear H
  unfold forV forC at *
  go_enter Tryz.func155, Tryz.ntmps155
  go_wp2_with (refine (HH.out _ ?_).mono ?_)
  · exact ((Below.refl _ _).alloc (Nat.le_refl _) _)
  rintro e w' ⟨rfl, hB2⟩
  go_wp2
  go_ret
  exact ⟨rfl, ((Below.refl _ _).alloc (Nat.le_refl _) _).trans (hB2.mono (by simp))⟩

set_option maxRecDepth 100000 in
set_option maxHeartbeats 4000000 in
theorem indexFor_any (a : Option Addr) (c : Nat) (l : List ForM) (q : ForM → Bool) (K : Nat) (lb : Array Value) (eg : ∀ args w, (callFunc K args).run Tryz.prog w = .ok (.enter K args) w) (w : World)
    (hl : RowFor w a l) (hn : l.length ≤ 1048576) (H : Says forV q l K lb w) :
    Calls Tryz.prog 168 #[.slice a l.length c, .func (.func K) #[] lb] w fun e w' => e = .returned (.int .i64 (firstI q l)) ∧ Below w.heap.size w w' := by
  have HL := Lib.hid hl
  have HH := Lib.hid H
  clear hl H
  obtain ⟨n, hln⟩ : ∃ n, n = l.length := ⟨_, rfl⟩
  rw [← hln] at hn ⊢
  have HN := Lib.hid hln
  clear hln
  go_enter Tryz.func168, Tryz.ntmps168
  go_wp2
  go_loopw [8] (fun i wr => ∃ (m : Nat), i = .int .i64 m ∧ m ≤ n ∧ Hid (∀ (j : Nat) y, j < m → l[j]? = some y → q y = false) ∧ Hid (Below w.heap.size w wr))
    (fun i _ => n - (intOf i).toNat)
  case atStart => exact ⟨0, rfl, Nat.zero_le _, Lib.hid (fun j y hj => by omega), Below.refl _ _⟩
  case round =>
    obtain ⟨m, rfl, hm, hS, hB⟩ := hrel
    by_cases hlt : m < n
    · have HX : Hid (∃ x, l[m]? = some x) := Lib.hid ⟨_, List.getElem?_eq_getElem (by rw [← HN.out]; exact hlt)⟩
      obtain ⟨x, hx⟩ := HX.out
      have HX := Lib.hid hx
      clear hx
      obtain ⟨b, off, rfl, hbw, hc, _⟩ := HL.out m x HX.out
      have hc := hc.below hB.out hbw
      have hbr := Nat.lt_of_lt_of_le hbw hB.out.size

      obtain ⟨c0, c1, c2⟩ := For_at hc
      clear hc
      have HC := Lib.hid (HH.out x (List.mem_of_getElem? HX.out) wr hB.out)
      have HQ : Hid (∀ r, q x = r → r = false → ∀ (j : Nat) y, j < m + 1 → l[j]? = some y → q y = false) := Lib.hid (fun r hr hf j y hj hy => by
        by_cases e : j = m
        · subst e
          rw [HX.out] at hy
          cases hy
          rw [hr, hf]
        · exact hS.out j y (by omega) hy)
      have HT : Hid (q x = true → firstI q l = m) := Lib.hid (fun h => firstI_hit q l m x HX.out h hS.out)
      generalize q x = r at HC HQ HT
      clear HX hS HH HL
      unfold forV forC at *
      have n1 : (m : Int) < (n : Int) := by omega
      cases r with
      | true =>
        have HT2 := Lib.hid (HT.out rfl)
        clear HQ HT
        go_wp2_with fail
        refine HC.out.mono ?_
        rintro e w3 ⟨rfl, hB3⟩
        have HB3 := Lib.hid (hB.out.trans (hB3.mono hB.out.size))
        clear hB3
        go_wp2
        go_ret
        exact ⟨by rw [HT2.out]; rfl, HB3.out⟩
      | false =>
        have HQ2 := Lib.hid (HQ.out false rfl rfl)
        clear HT HQ
        go_wp2_with fail
        refine HC.out.mono ?_
        rintro e w3 ⟨rfl, hB3⟩
        have HB3 := Lib.hid (hB.out.trans (hB3.mono hB.out.size))
        clear hB3
        go_wp2
        go_roundw
        case rel => exact ⟨m + 1, by go_num, by omega, HQ2, HB3⟩
        case measure => simp [intOf]; omega
    · obtain rfl : m = n := by omega
      have HT := Lib.hid (firstI_none q l (fun j y hy => hS.out j y (by have := (List.getElem?_eq_some_iff.1 hy).1; have := HN.out; omega) hy))
      clear hS
      go_wp2
      go_ret
      exact ⟨by rw [HT.out]; rfl, hB.out⟩

set_option maxRecDepth 100000 in
set_option maxHeartbeats 1000000 in
theorem containsFor_any (a : Option Addr) (c : Nat) (l : List ForM) (q : ForM → Bool) (K : Nat) (lb : Array Value) (eg : ∀ args w, (callFunc K args).run Tryz.prog w = .ok (.enter K args) w) (w : World)
    (hl : RowFor w a l) (hn : l.length ≤ 1048576) (H : Says forV q l K lb w) :
    Calls Tryz.prog 154 #[.slice a l.length c, .func (.func K) #[] lb] w fun e w' => e = .returned (.bool (l.any q)) ∧ Below w.heap.size w w' := by
  have HC := Lib.hid (indexFor_any a c l q K lb eg w hl hn H)
  have HI := firstI_any q l
  obtain ⟨i, hi⟩ : ∃ i, i = firstI q l := ⟨_, rfl⟩
  rw [← hi] at HC HI
  clear hi hl H
  generalize l.any q = r at HI ⊢
  generalize l.length = n at *
  go_enter Tryz.func154, Tryz.ntmps154
  go_wp2_with fail
  refine HC.out.mono ?_
  rintro e w3 ⟨rfl, hB3⟩
  go_wp2
  go_ret
  exact ⟨rfl, hB3⟩

set_option maxRecDepth 100000 in
set_option maxHeartbeats 1000000 in
theorem allFor_any (a : Option Addr) (c : Nat) (l : List ForM) (p : ForM → Bool) (K : Nat) (lb : Array Value) (eg : ∀ args w, (callFunc K args).run Tryz.prog w = .ok (.enter K args) w) (w : World)
    (hl : RowFor w a l) (hn : l.length ≤ 1048576) (H : Says forV p l K lb w) :
    Calls Tryz.prog 129 #[.slice a l.length c, .func (.func K) #[] lb] w fun e w' => e = .returned (.bool (l.all p)) ∧ Below w.heap.size w w' := by
  have hB1 : Below w.heap.size w (w.alloc (.cells #[.func (.func K) #[] lb] 176)) := (Below.refl _ _).alloc (Nat.le_refl _) _
  have HC := Lib.hid (containsFor_any a c l (fun x => !p x) 155 #[.pointer (some ⟨w.heap.size, 0, none⟩)] (fun _ _ => by kernel_rfl) (w.alloc (.cells #[.func (.func K) #[] lb] 176)) (RowOf.belowN hl hB1) hn (fun x hx W hW =>
    notFor_any x (p x) K lb eg _ W (by have hb := Blk.new w 176 #[.func (.func K) #[] lb]; exact (hb.below hW hb.lt).cell 0) (fun V hV => H x hx V (hB1.trans ((hW.trans (hV.mono hW.size)).mono (by simp))))))
  have HA := any_not p l
  have HB := Lib.hid hB1
  clear hl H hB1
  generalize l.any (fun x => !p x) = r at HC HA
  rw [← HA]
  clear HA
  generalize l.length = n at *
  go_enter Tryz.func129, Tryz.ntmps129
  go_wp2_with fail
  refine HC.out.mono ?_
  rintro e w3 ⟨rfl, hB3⟩
  go_wp2
  go_ret
  exact ⟨rfl, HB.out.trans (hB3.mono HB.out.size)⟩
end Go.Proofs.YtodnlcbnbkkanaaGreatDoor
end
section
namespace Go.Proofs.YtodnlcbnbkkanaaGreatDoor
open Go Go.RowKit

theorem Blk.gram {w : World} {B : Nat} {g : GramM} (h : Blk w B 27 (gramC g)) : w.cell? ⟨B, 0, none⟩ = some (.slice g.sa g.sorts.length g.sc) ∧ w.cell? ⟨B, 1, none⟩ = some (.slice g.pa g.prods.length g.pc) ∧ w.cell? ⟨B, 2, none⟩ = some (.int .i64 g.start) ∧
    w.cell? ⟨B, 3, none⟩ = some (.slice g.fa g.forbid.length g.fc) ∧ w.cell? ⟨B, 4, none⟩ = some (.slice g.wa g.follow.length g.wc) := ⟨h.cell 0, h.cell 1, h.cell 2, h.cell 3, h.cell 4⟩
theorem Blk.prod {w : World} {B : Nat} {x : ProdM} (h : Blk w B 65 (prodC x)) : w.cell? ⟨B, 0, none⟩ = some (.int .i64 x.left) ∧ w.cell? ⟨B, 1, none⟩ = some (.slice x.ra x.right.length x.rc) ∧ w.cell? ⟨B, 2, none⟩ = some (.string x.cons) ∧
    w.cell? ⟨B, 3, none⟩ = some (.int .i64 x.role) ∧ w.cell? ⟨B, 4, none⟩ = some (.bool x.prefer) ∧ w.cell? ⟨B, 5, none⟩ = some (.bool x.avoid) ∧ w.cell? ⟨B, 6, none⟩ = some (.int .i64 x.frm) := ⟨h.cell 0, h.cell 1, h.cell 2, h.cell 3, h.cell 4, h.cell 5, h.cell 6⟩

set_option maxRecDepth 100000 in
set_option maxHeartbeats 1000000 in
/-- prodsMayBe's closure. -/
theorem f79_any (x : ProdM) (g : GramM) (B : Nat) (w : World) (hx : ProdIn w x) (hn : x.right.length ≤ 1048576) (hb : Blk w B 27 (gramC g)) :
    Calls Tryz.prog 126 #[prodV x, .pointer (some ⟨B, 0, none⟩)] w fun e w' => e = .returned (.bool (prodB g.sorts.length x)) ∧ Below w.heap.size w w' := by
  have hB1 : Below w.heap.size w (w.alloc (.cells (prodC x) 65)) := (Below.refl _ _).alloc (Nat.le_refl _) _
  have HC := Lib.hid (prodMay_any x g.sorts.length _ (hx.below hB1) hn)
  have hlt := hb.lt
  have HB := Lib.hid hB1
  obtain ⟨c0, _, _, _, _⟩ := hb.gram
  clear hb hx hB1
  generalize prodB g.sorts.length x = r at *
  unfold prodV prodC at *
  go_enter Tryz.func126, Tryz.ntmps126
  go_wp2_with (go_at_call 127; refine HC.out.mono ?_; rintro e w3 ⟨rfl, hB3⟩)
  go_ret
  exact ⟨rfl, HB.out.trans (hB3.mono HB.out.size)⟩

/-- A grammar's bounds. -/
structure Fit (g : GramM) : Prop where
  sorts : g.sorts.length ≤ 1048576
  prods : g.prods.length ≤ 1048576
  right : ∀ x, x ∈ g.prods → x.right.length ≤ 1048576
  forbid : g.forbid.length ≤ 1048576
  follow : g.follow.length ≤ 1048576
  at_ : ∀ f, f ∈ g.forbid → -9223372036854775808 ≤ f.at_ ∧ f.at_ ≤ 9223372036854775807
  names : ∀ s, s ∈ g.sorts → s.size ≤ 9223372036854775807

theorem RowOf.mem {α : Type} {k : Nat} {cs : α → Array Value} {G : World → α → Prop} {w : World} {a : Option Addr} {l : List α} (h : RowOf k cs G w a l) {x : α} (hx : x ∈ l) : G w x := by
  obtain ⟨i, hi⟩ := List.mem_iff_getElem?.1 hx
  obtain ⟨_, _, _, _, _, k⟩ := h i x hi
  exact k

/-- May the productions be? -/
def prodsB (g : GramM) : Bool := decide (g.prods.length ≤ 1000) && g.prods.all (prodB g.sorts.length)

set_option maxRecDepth 100000 in
set_option maxHeartbeats 1000000 in
theorem prodsMay_any (g : GramM) (w : World) (hg : GIn w g) (hf : Fit g) : Calls Tryz.prog 94 #[gramV g] w fun e w' => e = .returned (.bool (prodsB g)) ∧ Below w.heap.size w w' := by
  have hB1 : Below w.heap.size w (w.alloc (.cells (gramC g) 27)) := (Below.refl _ _).alloc (Nat.le_refl _) _
  have HA := Lib.hid (allProd_any g.pa g.pc g.prods (prodB g.sorts.length) 126 #[.pointer (some ⟨w.heap.size, 0, none⟩)] (fun _ _ => by kernel_rfl) _ (hg.prods.below hB1) hf.prods (fun x hx W hW =>
    f79_any x g w.heap.size W ((RowOf.mem hg.prods hx).below (hB1.trans (hW.mono (by simp)))) (hf.right x hx) ((Blk.new w 27 (gramC g)).below hW (by simp))))
  have HB := Lib.hid hB1
  have HR : Hid (prodsB g = (decide (g.prods.length ≤ 1000) && g.prods.all (prodB g.sorts.length))) := Lib.hid rfl
  clear hg hf hB1
  generalize g.prods.all (prodB g.sorts.length) = r at *
  generalize prodsB g = q at *
  unfold gramV gramC at *
  generalize g.prods.length = n at *
  by_cases h : n ≤ 1000
  · have HR2 : Hid (q = r) := Lib.hid (by rw [HR.out]; simp [h])
    have hi : (n : Int) ≤ 1000 := by omega
    clear HR h
    go_enter Tryz.func94, Tryz.ntmps94
    go_wp2_with fail
    refine HA.out.mono ?_
    rintro e w3 ⟨rfl, hB3⟩
    have HB3 := Lib.hid (HB.out.trans (hB3.mono HB.out.size))
    clear hB3
    go_wp2
    go_ret
    exact ⟨by rw [HR2.out]; try rfl, HB3.out⟩
  · have HR2 : Hid (q = false) := Lib.hid (by rw [HR.out]; simp [h])
    have hi : ¬ (n : Int) ≤ 1000 := by omega
    clear HR h HA
    go_enter Tryz.func94, Tryz.ntmps94
    go_wp2
    go_ret
    exact ⟨by rw [HR2.out]; try rfl, HB.out⟩

/-- Is the start a sort? -/
def startB (g : GramM) : Bool := numB g.start g.sorts.length

set_option maxRecDepth 100000 in
theorem startMay_any (g : GramM) (w : World) : Calls Tryz.prog 93 #[gramV g] w fun e w' => e = .returned (.bool (startB g)) ∧ Below w.heap.size w w' := by
  have HB : Hid (Below w.heap.size w (w.alloc (.cells (gramC g) 27))) := (Below.refl _ _).alloc (Nat.le_refl _) _
  have HN := fun w' => Lib.hid (num_any g.start g.sorts.length w')
  unfold startB gramV gramC at *
  generalize numB g.start g.sorts.length = r at *
  go_enter Tryz.func93, Tryz.ntmps93
  go_wp2_with (go_at_call 90; refine (HN _).out.mono ?_; rintro e w3 ⟨rfl, rfl⟩)
  go_ret
  exact ⟨rfl, HB.out⟩

/-- May a production stand as the at-th symbol of another one? -/
def standB (p : ProdM) (k : Int) (c : ProdM) : Bool := !(p.role == 11) && (!(c.role == 11) && (numB (k - 1) p.right.length && (match p.right[(k - 1).toNat]? with | some s => s.kind == 1 && s.sort == c.left | none => false)))

set_option maxRecDepth 100000 in
set_option maxHeartbeats 4000000 in
theorem standMay_any (p c : ProdM) (k : Int) (w : World) (hp : ProdIn w p) (hn : p.right.length ≤ 1048576) (hk0 : -9223372036854775808 ≤ k) (hk1 : k ≤ 9223372036854775807) :
    Calls Tryz.prog 131 #[prodV p, .int .i64 k, prodV c] w fun e w' => e = .returned (.bool (standB p k c)) ∧ Below w.heap.size w w' := by
  have HB : Hid (Below w.heap.size w ((w.alloc (.cells (prodC p) 65)).alloc (.cells (prodC c) 65))) := Lib.hid (((Below.refl _ _).alloc (Nat.le_refl _) _).alloc (by simp) _)
  have HP := Lib.hid hp
  have HR : Hid (standB p k c = (!(p.role == 11) && (!(c.role == 11) && (numB (k - 1) p.right.length && (match p.right[(k - 1).toNat]? with | some s => s.kind == 1 && s.sort == c.left | none => false))))) := Lib.hid rfl
  clear hp
  generalize standB p k c = q at *
  obtain ⟨pl, pra, prc, pr, pc, pro, pp, pav, pf⟩ := p
  obtain ⟨cl, cra, crc, cr, cc, cro, cp, cav, cf⟩ := c
  unfold ProdIn at HP
  unfold prodV prodC at *
  dsimp only at *
  by_cases h1 : pro = 11
  · have HR2 : Hid (q = false) := Lib.hid (by rw [HR.out]; simp [h1])
    subst h1
    clear HR HP
    go_enter Tryz.func131, Tryz.ntmps131
    go_wp2
    go_ret
    exact ⟨by rw [HR2.out]; try rfl, HB.out⟩
  · have e1 : (pro == 11) = false := by simpa using h1
    by_cases h2 : cro = 11
    · have HR2 : Hid (q = false) := Lib.hid (by rw [HR.out]; simp [h2])
      subst h2
      clear HR h1 HP
      go_enter Tryz.func131, Tryz.ntmps131
      go_wp2
      go_ret
      exact ⟨by rw [HR2.out]; try rfl, HB.out⟩
    · have e2 : (cro == 11) = false := by simpa using h2
      by_cases h3 : 1 ≤ k ∧ k ≤ pr.length
      · obtain ⟨m, hm⟩ : ∃ m : Nat, k = m + 1 := ⟨(k - 1).toNat, by omega⟩
        subst hm
        have hm : m < pr.length := by omega
        obtain ⟨s, hs⟩ : ∃ s, pr[m]? = some s := ⟨_, List.getElem?_eq_getElem hm⟩
        have hnum : numB ((m : Int) + 1 - 1) pr.length = true := by unfold numB; simp; omega
        have HR2 : Hid (q = (s.kind == 1 && s.sort == cl)) := Lib.hid (by
          rw [HR.out, e1, e2, hnum, show ((m : Int) + 1 - 1).toNat = m by omega, hs]; rfl)
        have HN := fun w' => Lib.hid (num_any m pr.length w')
        have hnum2 : numB m pr.length = true := by unfold numB; simp; omega
        rw [hnum2] at HN
        obtain ⟨b, off, rfl, hbw, hc, _⟩ := HP.out m s hs
        have hc := hc.below HB.out hbw
        have hcw : b < ((w.alloc (.cells #[.int .i64 pl, .slice (some ⟨b, off, none⟩) pr.length prc, .string pc, .int .i64 pro, .bool pp, .bool pav, .int .i64 pf] 65)).alloc (.cells #[.int .i64 cl, .slice cra cr.length crc, .string cc, .int .i64 cro, .bool cp, .bool cav, .int .i64 cf] 65)).heap.size := by simp; omega
        obtain ⟨c0, c1, c2, c3, c4, c5⟩ := Sym_at hc
        obtain ⟨sk, ss, so⟩ := s
        dsimp only at *
        clear HR hc h1 h2 hnum hnum2 hs hn
        generalize pr.length = n at *
        have hmi : (m : Int) < n := by omega
        by_cases h4 : sk = 1
        · subst h4
          have HR3 : Hid (q = (so == cl)) := Lib.hid (by rw [HR2.out]; rfl)
          clear HR2
          go_enter Tryz.func131, Tryz.ntmps131
          go_wp2_with (go_at_call 90; (with_reducible refine (HN _).out.mono ?_); rintro e w3 ⟨rfl, rfl⟩)
          go_ret
          exact ⟨by rw [HR3.out]; try rfl, HB.out.alloc (by simp; omega) _⟩
        · have e4 : (sk == 1) = false := by simpa using h4
          have HR3 : Hid (q = false) := Lib.hid (by rw [HR2.out, e4]; rfl)
          clear HR2 h4
          go_enter Tryz.func131, Tryz.ntmps131
          go_wp2_with (go_at_call 90; (with_reducible refine (HN _).out.mono ?_); rintro e w3 ⟨rfl, rfl⟩)
          go_ret
          exact ⟨by rw [HR3.out]; try rfl, HB.out.alloc (by simp; omega) _⟩
      · have hnum : numB (k - 1) pr.length = false := by unfold numB; simp; omega
        have HR2 : Hid (q = false) := Lib.hid (by rw [HR.out, hnum]; simp)
        by_cases h4 : k = -9223372036854775808
        · subst h4
          have hnum2 : numB (wrap64 (-9223372036854775809)) pr.length = false := by
            rw [show wrap64 (-9223372036854775809) = 9223372036854775807 by kernel_rfl]
            unfold numB; simp; omega
          have HN := fun w' => Lib.hid (num_any (wrap64 (-9223372036854775809)) pr.length w')
          rw [hnum2] at HN
          clear HR h1 h2 h3 HP hnum2 hnum hk0 hk1
          go_enter Tryz.func131, Tryz.ntmps131
          go_wp2_with fail
          with_reducible refine (HN _).out.mono ?_
          rintro e w3 ⟨rfl, rfl⟩
          go_wp2
          go_ret
          exact ⟨by rw [HR2.out]; try rfl, HB.out⟩
        · have hk2 : -9223372036854775807 ≤ k := by omega
          have hk3 : k - 1 ≤ 9223372036854775807 := by omega
          have HN := fun w' => Lib.hid (num_any (k - 1) pr.length w')
          rw [hnum] at HN
          clear HR h1 h2 h3 h4 HP hnum
          go_enter Tryz.func131, Tryz.ntmps131
          go_wp2_with fail
          refine (HN _).out.mono ?_
          rintro e w3 ⟨rfl, rfl⟩
          go_wp2
          go_ret
          exact ⟨by rw [HR2.out]; try rfl, HB.out⟩
end Go.Proofs.YtodnlcbnbkkanaaGreatDoor
end
section
namespace Go.Proofs.YtodnlcbnbkkanaaGreatDoor
open Go Go.RowKit Go.Maps Go.WideMaps

/-- Does each thing stand once (and none among those of acc)? -/
def onceA {α : Type} (eq : α → α → Bool) : List α → List α → Bool
  | _, [] => true
  | acc, x :: r => !acc.any (fun y => eq y x) && onceA eq (acc ++ [x]) r
theorem onceA_iff {α : Type} (eq : α → α → Bool) : ∀ (l acc : List α), onceA eq acc l = true ↔ (∀ x, x ∈ l → ∀ y, y ∈ acc → eq y x = false) ∧ l.Pairwise (fun a b => eq a b = false) := by
  intro l
  induction l with
  | nil => intro acc; simp [onceA]
  | cons x r ih =>
    intro acc
    rw [onceA, Bool.and_eq_true, ih, List.pairwise_cons]
    constructor
    · rintro ⟨h1, h2, h3⟩
      have h1' : ∀ y, y ∈ acc → eq y x = false := fun y hy => by
        cases h : eq y x
        · rfl
        · have : acc.any (fun y => eq y x) = true := List.any_eq_true.2 ⟨y, hy, h⟩
          rw [this] at h1; cases h1
      refine ⟨fun z hz y hy => ?_, fun z hz => h2 z hz x (by simp), h3⟩
      rcases List.mem_cons.1 hz with rfl | hz
      · exact h1' y hy
      · exact h2 z hz y (by simp [hy])
    · rintro ⟨h1, h2, h3⟩
      refine ⟨?_, fun z hz y hy => ?_, h3⟩
      · have : acc.any (fun y => eq y x) = false := by
          rw [List.any_eq_false]
          intro y hy
          rw [h1 x (by simp) y hy]; simp
        rw [this]; rfl
      · rcases List.mem_append.1 hy with hy | hy
        · exact h1 z (by simp [hz]) y hy
        · simp at hy; subst hy; exact h2 z hz
theorem onceA_reverse {α : Type} (eq : α → α → Bool) (hs : ∀ a b, eq a b = eq b a) (l : List α) : onceA eq [] l.reverse = onceA eq [] l := by
  rw [Bool.eq_iff_iff, onceA_iff, onceA_iff, List.pairwise_reverse]
  simp only [List.not_mem_nil, false_imp_iff, implies_true, true_and]
  constructor
  · intro h; exact h.imp fun h => by rw [hs]; exact h
  · intro h; exact h.imp fun h => by rw [hs]; exact h

theorem addKey_len (acc : List Lit) (x : Lit) : (addKey acc x).length ≤ acc.length + 1 := by unfold addKey; split <;> simp
theorem fold_len : ∀ (l acc : List Lit), (l.foldl addKey acc).length ≤ acc.length + l.length := by
  intro l
  induction l with
  | nil => intro acc; simp
  | cons x r ih => intro acc; rw [List.foldl_cons]; have := ih (addKey acc x); have := addKey_len acc x; simp only [List.length_cons]; omega
theorem fold_once : ∀ (l acc : List Lit), decide ((l.foldl addKey acc).length = acc.length + l.length) = onceA (fun y x => y.sameKey x) acc l := by
  intro l
  induction l with
  | nil => intro acc; simp [onceA]
  | cons x r ih =>
    intro acc
    rw [List.foldl_cons, onceA]
    cases h : acc.any (fun y => y.sameKey x)
    · have h2 : addKey acc x = acc ++ [x] := by unfold addKey; rw [h]; rfl
      rw [h2, ← ih]
      simp only [List.length_append, List.length_cons, List.length_nil, Bool.not_false, Bool.true_and]
      rw [Bool.eq_iff_iff]; simp only [decide_eq_true_eq]; omega
    · have h2 : addKey acc x = acc := by unfold addKey; rw [h]; rfl
      have h3 := fold_len r acc
      rw [h2]
      simp only [List.length_cons, Bool.not_true, Bool.false_and, decide_eq_false_iff_not]
      omega
theorem once_map {α : Type} (key : α → Lit) (eq : α → α → Bool) : ∀ (l acc : List α), (∀ a b, a ∈ acc ++ l → b ∈ acc ++ l → (key a).sameKey (key b) = eq a b) → onceA (fun y x => y.sameKey x) (acc.map key) (l.map key) = onceA eq acc l := by
  intro l
  induction l with
  | nil => intro acc _; simp [onceA]
  | cons x r ih =>
    intro acc h
    rw [List.map_cons, onceA, onceA]
    have e := ih (acc ++ [x]) (fun a b ha hb => h a b (by simpa using ha) (by simpa using hb))
    rw [List.map_append, List.map_cons, List.map_nil] at e
    rw [e, List.any_map]
    congr 2
    rw [Bool.eq_iff_iff, List.any_eq_true, List.any_eq_true]
    constructor
    · rintro ⟨y, hy, hk⟩; exact ⟨y, hy, by rw [← h y x (by simp [hy]) (by simp)]; exact hk⟩
    · rintro ⟨y, hy, hk⟩; exact ⟨y, hy, by show (key y).sameKey (key x) = true; rw [h y x (by simp [hy]) (by simp)]; exact hk⟩

/-- A number that a word of 64 bits holds. -/
def I64 (n : Int) : Prop := -9223372036854775808 ≤ n ∧ n ≤ 9223372036854775807
theorem wf_int {n : Int} (h : I64 n) : (Lit.int .i64 n).wf = true := by
  have h0 : IntKind.i64.min = -9223372036854775808 := by decide
  have h1 : IntKind.i64.max = 9223372036854775807 := by decide
  unfold I64 at h
  simp [Lit.wf, h0, h1]; omega
abbrev unitE : Value → Option (DataW Unit × List MemPlace) := unitElem (H := Unit)

theorem laidOut : laidOutB Tryz.prog = true := by kernel_rfl
theorem key3 : Keyed Tryz.prog 3 := int_keyed Tryz.underlying3
theorem key85 : Keyed Tryz.prog 85 := Keyed.of_law (deep_law_gate laidOut (of_decide_eq_true (by kernel_rfl)) (of_decide_eq_true (by kernel_rfl)) (by kernel_rfl) (by kernel_rfl))
theorem key9 : Keyed Tryz.prog 9 := string_keyed Tryz.underlying9

theorem keyLits3 (d : Nat) (n : Int) (h : I64 n) : Tryz.prog.keyLits (d + 1) 3 [.int .i64 n] = some [.int .i64 n] := by
  unfold Program.keyLits
  simp [Tryz.underlying3, wf_int h]
theorem fields85 : (Tryz.prog.fieldsOf 85).toList.map (fun f => (f.name, f.type, f.offset)) = [("Parent", 3, 0), ("At", 3, 1), ("Child", 3, 2)] := by kernel_rfl
theorem cellsOf3 : Tryz.prog.cellsOf 3 = 1 := by kernel_rfl
theorem cellsOf85 : Tryz.prog.cellsOf 85 = 3 := by kernel_rfl
theorem keyType85 : Tryz.prog.keyType 85 = true := by kernel_rfl

structure FitF (f : ForM) : Prop where
  parent : I64 f.parent
  at_ : I64 f.at_
  child : I64 f.child

theorem key_for (f : ForM) (h : FitF f) : keyOf Tryz.prog 85 (forV f) = some (.string (keyBytes [.int .i64 f.parent, .int .i64 f.at_, .int .i64 f.child])) := by
  have hsz : ∃ m, Tryz.prog.types.size = m + 1 := ⟨Tryz.prog.types.size - 1, by have : 0 < Tryz.prog.types.size := of_decide_eq_true (by kernel_rfl); omega⟩
  obtain ⟨m, hm⟩ := hsz
  have h1 : Tryz.prog.underlying 85 = some (.struct (Tryz.prog.fieldsOf 85)) := by kernel_rfl
  have hf := fields85
  have hfm : (forV f).formed Tryz.prog 85 = true := by simp [forV, forC, Value.formed, h1, cellsOf85]
  unfold keyOf
  rw [h1, keyType85, hfm, hm]
  unfold Program.keyLits
  simp only [h1, cellsOf85]
  have hall : (Tryz.prog.fieldsOf 85).all (fun x => x.name != "_") = true := by kernel_rfl
  rw [hall]
  revert hf
  generalize (Tryz.prog.fieldsOf 85).toList = fs
  intro hf
  obtain ⟨f0, fs0, rfl⟩ : ∃ f l, fs = f :: l := by cases fs with | nil => simp at hf | cons f l => exact ⟨f, l, rfl⟩
  obtain ⟨f1, fs1, rfl⟩ : ∃ f l, fs0 = f :: l := by cases fs0 with | nil => simp at hf | cons f l => exact ⟨f, l, rfl⟩
  obtain ⟨f2, fs2, rfl⟩ : ∃ f l, fs1 = f :: l := by cases fs1 with | nil => simp at hf | cons f l => exact ⟨f, l, rfl⟩
  obtain rfl : fs2 = [] := by cases fs2 with | nil => rfl | cons f l => simp at hf
  simp only [List.map_cons, List.map_nil, List.cons.injEq, Prod.mk.injEq, and_true] at hf
  obtain ⟨⟨_, t0, o0⟩, ⟨_, t1, o1⟩, ⟨_, t2, o2⟩⟩ := hf
  simp only [Bool.and_self, if_true, forV, forC, Value.cells, List.mapM_cons, List.mapM_nil, t0, t1, t2, o0, o1, o2, cellsOf3]
  simp [keyLits3 m _ h.parent, keyLits3 m _ h.at_, keyLits3 m _ h.child]

theorem forV_inj {f g : ForM} (h : forV f = forV g) : f = g := by
  obtain ⟨a, b, c⟩ := f
  obtain ⟨a', b', c'⟩ := g
  unfold forV forC at h
  injection h with h
  simpa using h
def forEq (f g : ForM) : Bool := f.parent == g.parent && (f.at_ == g.at_ && f.child == g.child)
theorem forEq_iff (f g : ForM) : forEq f g = true ↔ f = g := by
  obtain ⟨a, b, c⟩ := f
  obtain ⟨a', b', c'⟩ := g
  simp [forEq]
def forK (f : ForM) : Lit := .string (keyBytes [.int .i64 f.parent, .int .i64 f.at_, .int .i64 f.child])
theorem forK_same {f g : ForM} (hf : FitF f) (hg : FitF g) : (forK f).sameKey (forK g) = forEq f g := by
  rw [Bool.eq_iff_iff, forEq_iff]
  constructor
  · intro h
    have e := WideAt.sameKey_eq h
    have h1 := key_for f hf
    have h2 := key_for g hg
    unfold forK at e
    rw [← e] at h2
    exact forV_inj (key85.inj h1 h2)
  · rintro rfl; exact WideAt.sameKey_self (key85.key (key_for f hf))
theorem intK_same (a b : Int) : (Lit.int .i64 a).sameKey (.int .i64 b) = (a == b) := by
  simp [Lit.sameKey]; rfl

theorem take_snoc {α : Type} (l : List α) (k : Nat) (x : α) (h : l[k]? = some x) : l.take (k + 1) = l.take k ++ [x] := by
  rw [List.take_add_one, h]; rfl

set_option maxRecDepth 100000 in
set_option maxHeartbeats 1000000 in
theorem onceFor_any (a : Option Addr) (c : Nat) (l : List ForM) (w : World) (hl : RowFor w a l) (hn : l.length ≤ 1048576) (hF : ∀ f, f ∈ l → FitF f) :
    Calls Tryz.prog 128 #[.slice a l.length c] w fun e w' => e = .returned (.bool (onceA forEq [] l)) ∧ Below w.heap.size w w' := by
  have HL := Lib.hid hl
  have HF := Lib.hid hF
  have HO : Hid (decide (size (setOf (.agg []) (l.map forK) : DataW Unit) = l.length) = onceA forEq [] l) := Lib.hid (by
    rw [size_setOf _ _ (fun x hx => by obtain ⟨f, hf, rfl⟩ := List.mem_map.1 hx; exact key85.key (key_for f (hF f hf)))]
    have h1 := fold_once (l.map forK) []
    simp only [List.length_nil, Nat.zero_add, List.length_map] at h1
    rw [h1]
    exact once_map forK forEq l [] (fun a b ha hb => forK_same (hF a (by simpa using ha)) (hF b (by simpa using hb))))
  clear hl hF
  obtain ⟨n, hln⟩ : ∃ n, n = l.length := ⟨_, rfl⟩
  have HN := Lib.hid hln
  rw [← hln] at hn ⊢
  rw [← hln] at HO
  clear hln
  have hmm := @run_makeMap Tryz.prog
  have hM0 := World.ownsMap_made w Tryz.prog 85 unitE
  have hB0 : Hid (Below w.heap.size w (w.alloc (.map #[] 0))) := Lib.hid ((Below.refl _ _).alloc (Nat.le_refl _) _)
  go_enter Tryz.func128, Tryz.ntmps128
  go_wp2
  go_loopw [9] (fun i wr => ∃ (k : Nat), i = .int .i64 k ∧ k ≤ n ∧ wr.ownsMap Tryz.prog 85 unitE w.heap.size k (setOf (.agg []) ((l.take k).map forK)) ∧ Hid (Below w.heap.size w wr))
    (fun i _ => n - (intOf i).toNat)
  case atStart => exact ⟨0, rfl, Nat.zero_le _, hM0, hB0⟩
  case round =>
    clear hM0 hB0
    obtain ⟨k, rfl, hk, hown, hB⟩ := hrel
    by_cases hlt : k < n
    · obtain ⟨f, hf⟩ : ∃ f, l[k]? = some f := ⟨_, List.getElem?_eq_getElem (by rw [← HN.out]; exact hlt)⟩
      have HS : Hid (setOf (.agg []) ((l.take (k + 1)).map forK) = (setOf (.agg []) ((l.take k).map forK) : DataW Unit).put (forK f) (.agg [])) := Lib.hid (by rw [take_snoc l k f hf, List.map_append, List.map_cons, List.map_nil, setOf_snoc])
      have HK := Lib.hid (key_for f (HF.out f (List.mem_of_getElem? hf)))
      obtain ⟨b, off, rfl, hbw, hc, _⟩ := HL.out k f hf
      have hc := hc.below hB.out hbw
      have hbr := Nat.lt_of_lt_of_le hbw hB.out.size
      obtain ⟨c0, c1, c2⟩ := For_at hc
      have hsz := hB.out.size
      have hwm := hown.lt
      have HB1 := Lib.hid (hB.out.alloc hsz (.cells (forC f) 85))
      clear hc HF hf
      unfold forV at HK
      unfold forC at *
      have n1 : (k : Int) < (n : Int) := by omega
      go_wp2_with (first
        | (at_mapUpdate; refine wpList_mapUpdate_own _ rfl _ _ _ 202 rfl 85 143 key85 Tryz.underlying202 unitE w.heap.size k _ rfl (hown.alloc _) (by unfold maxLen; omega) _ _ _ rfl rfl HK.out (.agg []) [] unitElem_mk ?_; intro w1 hown1 hgrow1)
        | go_in)
      have hB2 : Hid (Below w.heap.size w w1) := Lib.hid (HB1.out.grown hgrow1 (by simp; omega) (fun j hj => by cases hj; exact Nat.le_refl _))
      have hown2 : w1.ownsMap Tryz.prog 85 unitE w.heap.size (k + 1) (setOf (.agg []) ((l.take (k + 1)).map forK)) := by rw [HS.out]; exact hown1
      clear hown1 hgrow1
      go_wp2
      go_roundw
      case rel => exact ⟨k + 1, by go_num, by omega, hown2, hB2⟩
      case measure => simp [intOf]; omega
    · obtain rfl : k = n := by omega
      have HT : Hid (l.take k = l) := Lib.hid (List.take_of_length_le (by rw [← HN.out]; exact Nat.le_refl _))
      rw [HT.out] at hown
      go_wp2_with (first
        | (at_len; refine wpList_len_own _ rfl _ 202 rfl 85 143 Tryz.underlying202 unitE w.heap.size k _ rfl hown ?_)
        | go_in)
      go_wp2
      go_ret
      exact ⟨by
        rw [← HO.out]
        show Ending.returned (.bool _) = Ending.returned (.bool _)
        rw [Ending.returned.injEq, Value.bool.injEq, Bool.eq_iff_iff]
        simp
        exact Int.ofNat_inj, hB.out⟩

set_option maxRecDepth 100000 in
set_option maxHeartbeats 1000000 in
theorem onceInt_any (a : Option Addr) (c : Nat) (l : List Int) (w : World) (hl : RowInt w a l) (hn : l.length ≤ 1048576) (hF : ∀ f, f ∈ l → I64 f) :
    Calls Tryz.prog 132 #[.slice a l.length c] w fun e w' => e = .returned (.bool (onceA (fun a b => a == b) [] l)) ∧ Below w.heap.size w w' := by
  have HL := Lib.hid hl
  have HF := Lib.hid hF
  have HO : Hid (decide (size (setOf (.agg []) (l.map (Lit.int .i64)) : DataW Unit) = l.length) = onceA (fun a b => a == b) [] l) := Lib.hid (by
    rw [size_setOf _ _ (fun x hx => by obtain ⟨f, hf, rfl⟩ := List.mem_map.1 hx; exact key3.key (keyOf_int_mk Tryz.underlying3 (wf_int (hF f hf))))]
    have h1 := fold_once (l.map (Lit.int .i64)) []
    simp only [List.length_nil, Nat.zero_add, List.length_map] at h1
    rw [h1]
    exact once_map (Lit.int .i64) (fun a b => a == b) l [] (fun a b ha hb => intK_same a b))
  clear hl hF
  obtain ⟨n, hln⟩ : ∃ n, n = l.length := ⟨_, rfl⟩
  have HN := Lib.hid hln
  rw [← hln] at hn ⊢
  rw [← hln] at HO
  clear hln
  have hmm := @run_makeMap Tryz.prog
  have hM0 := World.ownsMap_made w Tryz.prog 3 unitE
  have hB0 : Hid (Below w.heap.size w (w.alloc (.map #[] 0))) := Lib.hid ((Below.refl _ _).alloc (Nat.le_refl _) _)
  go_enter Tryz.func132, Tryz.ntmps132
  go_wp2
  go_loopw [9] (fun i wr => ∃ (k : Nat), i = .int .i64 k ∧ k ≤ n ∧ wr.ownsMap Tryz.prog 3 unitE w.heap.size k (setOf (.agg []) ((l.take k).map (Lit.int .i64))) ∧ Hid (Below w.heap.size w wr))
    (fun i _ => n - (intOf i).toNat)
  case atStart => exact ⟨0, rfl, Nat.zero_le _, hM0, hB0⟩
  case round =>
    clear hM0 hB0
    obtain ⟨k, rfl, hk, hown, hB⟩ := hrel
    by_cases hlt : k < n
    · obtain ⟨f, hf⟩ : ∃ f, l[k]? = some f := ⟨_, List.getElem?_eq_getElem (by rw [← HN.out]; exact hlt)⟩
      have HS : Hid (setOf (.agg []) ((l.take (k + 1)).map (Lit.int .i64)) = (setOf (.agg []) ((l.take k).map (Lit.int .i64)) : DataW Unit).put (.int .i64 f) (.agg [])) := Lib.hid (by rw [take_snoc l k f hf, List.map_append, List.map_cons, List.map_nil, setOf_snoc])
      have HK := Lib.hid (keyOf_int_mk Tryz.underlying3 (wf_int (HF.out f (List.mem_of_getElem? hf))))
      obtain ⟨b, off, rfl, hbw, hc, _⟩ := HL.out k f hf
      have hc := hc.below hB.out hbw
      have hbr := Nat.lt_of_lt_of_le hbw hB.out.size
      have c0 := Int_at hc
      rw [Nat.mul_one] at c0
      have hsz := hB.out.size
      have hwm := hown.lt
      clear hc HF hf
      have n1 : (k : Int) < (n : Int) := by omega
      go_wp2_with (first
        | (at_mapUpdate; refine wpList_mapUpdate_own _ rfl _ _ _ 203 rfl 3 143 key3 Tryz.underlying203 unitE w.heap.size k _ rfl hown (by unfold maxLen; omega) _ _ _ rfl rfl HK.out (.agg []) [] unitElem_mk ?_; intro w1 hown1 hgrow1)
        | go_in)
      have hB2 : Hid (Below w.heap.size w w1) := Lib.hid (hB.out.grown hgrow1 (by omega) (fun j hj => by cases hj; exact Nat.le_refl _))
      have hown2 : w1.ownsMap Tryz.prog 3 unitE w.heap.size (k + 1) (setOf (.agg []) ((l.take (k + 1)).map (Lit.int .i64))) := by rw [HS.out]; exact hown1
      clear hown1 hgrow1
      go_wp2
      go_roundw
      case rel => exact ⟨k + 1, by go_num, by omega, hown2, hB2⟩
      case measure => simp [intOf]; omega
    · obtain rfl : k = n := by omega
      have HT : Hid (l.take k = l) := Lib.hid (List.take_of_length_le (by rw [← HN.out]; exact Nat.le_refl _))
      rw [HT.out] at hown
      go_wp2_with (first
        | (at_len; refine wpList_len_own _ rfl _ 203 rfl 3 143 Tryz.underlying203 unitE w.heap.size k _ rfl hown ?_)
        | go_in)
      go_wp2
      go_ret
      exact ⟨by
        rw [← HO.out]
        show Ending.returned (.bool _) = Ending.returned (.bool _)
        rw [Ending.returned.injEq, Value.bool.injEq, Bool.eq_iff_iff]
        simp
        exact Int.ofNat_inj, hB.out⟩
end Go.Proofs.YtodnlcbnbkkanaaGreatDoor
end
