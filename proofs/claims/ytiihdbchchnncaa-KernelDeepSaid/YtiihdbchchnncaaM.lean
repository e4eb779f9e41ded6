import Derived.Test.YtiihdbchchnncaaProg
import Derived.WalkKit
import Derived.WalkSpells
import Derived.WalkLawsBesides
import Derived.Lib.Hide
import Derived.Below
import Derived.RangeFuncNested
import Derived.RangeFuncBound
import Derived.RangeFuncCalls
import Derived.RangeFuncLeaves
import Derived.Deep.RegionWith
import Derived.Deep.RegionHeld3
import Derived.OpenShut
import Derived.Test.YtiihdbchchnncaaS
namespace Go.Proofs.Ytiihdbchchnncaa
open Go Go.RowKit

theorem lt_of_cell {w : World} {b i : Nat} {v : Value} (h : w.cell? ⟨b, i, none⟩ = some v) : b < w.heap.size := by
  unfold World.cell? at h
  by_cases hb : b < w.heap.size
  · exact hb
  · simp [Array.getElem?_eq_none (Nat.le_of_not_lt hb)] at h

/-- A block of cells known whole, none frozen. -/
def Blk (W : World) (B : Nat) (t : TypeId) (cs : Array Value) : Prop := W.heap[B]? = some (.cells cs t (0, 0))

theorem Blk.lt {W : World} {B t : Nat} {cs : Array Value} (h : Blk W B t cs) : B < W.heap.size := (Array.getElem?_eq_some_iff.1 h).1
theorem Blk.cell {W : World} {B t : Nat} {cs : Array Value} (h : Blk W B t cs) (i : Nat) : W.cell? ⟨B, i, none⟩ = cs[i]? := by
  unfold World.cell?
  simp only [show W.heap[B]? = _ from h]
  rfl
theorem Blk.frozen {W : World} {B t : Nat} {cs : Array Value} (h : Blk W B t cs) (i : Nat) : W.frozen? ⟨B, i, none⟩ = false := by
  unfold World.frozen?
  simp only [show W.heap[B]? = _ from h]
  simp
theorem Blk.new (W : World) (t : TypeId) (cs : Array Value) : Blk (W.alloc (.cells cs t)) W.heap.size t cs := World.alloc_heap_new W _
theorem Blk.kept {W W' : World} {row : Option Nat} {B t : Nat} {cs : Array Value} (h : Blk W B t cs) (hg : W.grownBy W' row) (hne : some B ≠ row) : Blk W' B t cs := (hg.block B h.lt hne).trans h
theorem Blk.alloc {W : World} {B t : Nat} {cs : Array Value} (h : Blk W B t cs) (o : Obj) : Blk (W.alloc o) B t cs := h.kept (World.grownBy_alloc W o none) (by simp)
theorem Blk.drew {W : World} {B t : Nat} {cs : Array Value} (h : Blk W B t cs) : Blk W.drew B t cs := h
theorem Blk.below {W W' : World} {n B t : Nat} {cs : Array Value} (h : Blk W B t cs) (hb : Below n W W') (hn : B < n) : Blk W' B t cs := (hb.block B hn).trans h
theorem Blk.other {W : World} {B t : Nat} {cs : Array Value} (h : Blk W B t cs) {a : Addr} (hne : B ≠ a.block) (u : Value) : Blk (W.setCell a u) B t cs := (Below.heap_setCell W a u B hne).trans h
theorem Blk.set {W : World} {B t : Nat} {cs : Array Value} (h : Blk W B t cs) (i : Nat) (u : Value) : Blk (W.setCell ⟨B, i, none⟩ u) B t (cs.setIfInBounds i u) := by
  obtain ⟨hlt, hk⟩ := Array.getElem?_eq_some_iff.1 h
  show (W.heap.modify B _)[B]? = _
  rw [Array.getElem?_eq_getElem (by rw [Array.size_modify]; exact hlt), Array.getElem_modify_self, hk]
  rfl


/-- A symbol. -/
structure SymM where
  kind : Int
  set : BS
  sort : Int
/-- A production, with where its symbols lie. -/
structure ProdM where
  left : Int
  ra : Option Addr
  rc : Nat
  right : List SymM
  cons : ByteArray
  role : Int
  prefer : Bool
  avoid : Bool
  frm : Int
structure ForM where
  parent : Int
  at_ : Int
  child : Int
structure FolM where
  sort : Int
  not : BS
/-- A grammar, with where its lists lie. -/
structure GramM where
  sa : Option Addr
  sc : Nat
  sorts : List ByteArray
  pa : Option Addr
  pc : Nat
  prods : List ProdM
  start : Int
  fa : Option Addr
  fc : Nat
  forbid : List ForM
  wa : Option Addr
  wc : Nat
  follow : List FolM
inductive TreeM where
  | node (prod : Int) (byte : Int) (ka : Option Addr) (kc : Nat) (kids : List TreeM)

def strC (s : ByteArray) : Array Value := #[.string s]
def symC (x : SymM) : Array Value := #[.int .i64 x.kind, .int .u64 (wdI x.set 0), .int .u64 (wdI x.set 1), .int .u64 (wdI x.set 2), .int .u64 (wdI x.set 3), .int .i64 x.sort]
def prodC (p : ProdM) : Array Value := #[.int .i64 p.left, .slice p.ra p.right.length p.rc, .string p.cons, .int .i64 p.role, .bool p.prefer, .bool p.avoid, .int .i64 p.frm]
def forC (f : ForM) : Array Value := #[.int .i64 f.parent, .int .i64 f.at_, .int .i64 f.child]
def folC (f : FolM) : Array Value := #[.int .i64 f.sort, .int .u64 (wdI f.not 0), .int .u64 (wdI f.not 1), .int .u64 (wdI f.not 2), .int .u64 (wdI f.not 3)]
def gramC (g : GramM) : Array Value := #[.slice g.sa g.sorts.length g.sc, .slice g.pa g.prods.length g.pc, .int .i64 g.start, .slice g.fa g.forbid.length g.fc, .slice g.wa g.follow.length g.wc]
def treeC : TreeM → Array Value | .node p b ka kc kids => #[.int .i64 p, .int .u8 b, .slice ka kids.length kc]
def boolC (b : Bool) : Array Value := #[.bool b]
def intC (i : Int) : Array Value := #[.int .i64 i]

/-- Cells as they lie in memory. -/
def CellsAt (w : World) (b o : Nat) (cs : Array Value) : Prop := ∀ j v, cs[j]? = some v → w.cell? ⟨b, o + j, none⟩ = some v
theorem CellsAt.to {w W : World} {b o : Nat} {cs : Array Value} (h : CellsAt w b o cs) (hb : W.heap[b]? = w.heap[b]?) : CellsAt W b o cs :=
  fun j v hv => (World.cell?_of_block (w := w) hb).trans (h j v hv)
theorem CellsAt.lt {w : World} {b o : Nat} {cs : Array Value} (h : CellsAt w b o cs) (hn : 0 < cs.size) : b < w.heap.size := lt_of_cell (h 0 _ (Array.getElem?_eq_getElem hn))
theorem CellsAt.below {w W : World} {n b o : Nat} {cs : Array Value} (h : CellsAt w b o cs) (hB : Below n w W) (hn : b < n) : CellsAt W b o cs := h.to (hB.block b hn)

/-- Things as they lie behind a slice: k cells each; G: what else is said of them. -/
def RowOf {α : Type} (k : Nat) (cs : α → Array Value) (G : World → α → Prop) (w : World) (a : Option Addr) (l : List α) : Prop :=
  ∀ (i : Nat) (x : α), l[i]? = some x → ∃ b off, a = some ⟨b, off, none⟩ ∧ b < w.heap.size ∧ CellsAt w b (off + i * k) (cs x) ∧ G w x
theorem RowOf.nil {α : Type} {k : Nat} {cs : α → Array Value} {G : World → α → Prop} {w : World} (a : Option Addr) : RowOf k cs G w a [] := fun i x h => by simp at h
theorem RowOf.below {α : Type} {k : Nat} {cs : α → Array Value} {G : World → α → Prop} {w W : World} {a : Option Addr} {l : List α} (h : RowOf k cs G w a l) (hB : Below w.heap.size w W)
    (hG : ∀ x, G w x → G W x) : RowOf k cs G W a l := fun i x hx => by
  obtain ⟨b, off, rfl, hb, hc, hg⟩ := h i x hx
  exact ⟨b, off, rfl, Nat.lt_of_lt_of_le hb hB.size, hc.below hB hb, hG x hg⟩

abbrev NoG {α : Type} : World → α → Prop := fun _ _ => True
abbrev RowStr : World → Option Addr → List ByteArray → Prop := RowOf 1 strC NoG
abbrev RowSym : World → Option Addr → List SymM → Prop := RowOf 6 symC NoG
abbrev RowInt : World → Option Addr → List Int → Prop := RowOf 1 intC NoG
abbrev RowBool : World → Option Addr → List Bool → Prop := RowOf 1 boolC NoG
abbrev RowFor : World → Option Addr → List ForM → Prop := RowOf 3 forC NoG
abbrev RowFol : World → Option Addr → List FolM → Prop := RowOf 5 folC NoG
def ProdIn (w : World) (p : ProdM) : Prop := RowSym w p.ra p.right
abbrev RowProd : World → Option Addr → List ProdM → Prop := RowOf 7 prodC ProdIn

theorem RowOf.belowN {α : Type} {k : Nat} {cs : α → Array Value} {w W : World} {a : Option Addr} {l : List α} (h : RowOf k cs NoG w a l) (hB : Below w.heap.size w W) : RowOf k cs NoG W a l := h.below hB fun _ _ => trivial
theorem ProdIn.below {w W : World} {p : ProdM} (h : ProdIn w p) (hB : Below w.heap.size w W) : ProdIn W p := RowOf.belowN h hB
theorem RowProd.below {w W : World} {a : Option Addr} {l : List ProdM} (h : RowProd w a l) (hB : Below w.heap.size w W) : RowProd W a l := RowOf.below h hB fun _ h => h.below hB

/-- A grammar's lists, as they lie in memory. -/
structure GIn (w : World) (g : GramM) : Prop where
  sorts : RowStr w g.sa g.sorts
  prods : RowProd w g.pa g.prods
  forbid : RowFor w g.fa g.forbid
  follow : RowFol w g.wa g.follow
theorem GIn.below {w W : World} {g : GramM} (h : GIn w g) (hB : Below w.heap.size w W) : GIn W g :=
  ⟨h.sorts.belowN hB, h.prods.below hB, h.forbid.belowN hB, h.follow.belowN hB⟩

mutual
def TreeIn (w : World) : TreeM → Prop
  | .node _ _ ka _ kids => KidsIn w ka 0 kids
def KidsIn (w : World) (ka : Option Addr) (i : Nat) : List TreeM → Prop
  | [] => True
  | t :: r => (∃ b off, ka = some ⟨b, off, none⟩ ∧ b < w.heap.size ∧ CellsAt w b (off + i * 3) (treeC t)) ∧ TreeIn w t ∧ KidsIn w ka (i + 1) r
end
theorem kids_row (w : World) (ka : Option Addr) : ∀ (l : List TreeM) (i : Nat), KidsIn w ka i l ↔ ∀ (j : Nat) (x : TreeM), l[j]? = some x → (∃ b off, ka = some ⟨b, off, none⟩ ∧ b < w.heap.size ∧ CellsAt w b (off + (i + j) * 3) (treeC x)) ∧ TreeIn w x := by
  intro l
  induction l with
  | nil => intro i; simp [KidsIn]
  | cons t r ih =>
    intro i
    rw [KidsIn, ih (i + 1)]
    constructor
    · rintro ⟨h1, h2, h3⟩ j x hx
      cases j with
      | zero => simp at hx; subst hx; exact ⟨h1, h2⟩
      | succ j =>
        have := h3 j x (by simpa using hx)
        rw [show i + 1 + j = i + (j + 1) by omega] at this
        exact this
    · intro h
      refine ⟨(h 0 t rfl).1, (h 0 t rfl).2, fun j x hx => ?_⟩
      have := h (j + 1) x (by simpa using hx)
      rw [show i + (j + 1) = i + 1 + j by omega] at this
      exact this
abbrev RowTree : World → Option Addr → List TreeM → Prop := RowOf 3 treeC TreeIn
theorem tree_in (w : World) (p b : Int) (ka : Option Addr) (kc : Nat) (kids : List TreeM) : TreeIn w (.node p b ka kc kids) ↔ RowTree w ka kids := by
  rw [TreeIn, kids_row]
  constructor
  · intro h i x hx
    obtain ⟨⟨b, off, h1, h2, h3⟩, h4⟩ := h i x hx
    rw [Nat.zero_add] at h3
    exact ⟨b, off, h1, h2, h3, h4⟩
  · intro h i x hx
    obtain ⟨b, off, h1, h2, h3, h4⟩ := h i x hx
    exact ⟨⟨b, off, h1, h2, by rw [Nat.zero_add]; exact h3⟩, h4⟩
mutual
theorem TreeIn.below {w W : World} (hB : Below w.heap.size w W) : (t : TreeM) → TreeIn w t → TreeIn W t
  | .node _ _ ka _ kids, h => by rw [TreeIn] at h ⊢; exact KidsIn.below hB ka 0 kids h
theorem KidsIn.below {w W : World} (hB : Below w.heap.size w W) (ka : Option Addr) (i : Nat) : (l : List TreeM) → KidsIn w ka i l → KidsIn W ka i l
  | [], _ => by rw [KidsIn]; trivial
  | t :: r, h => by
    rw [KidsIn] at h ⊢
    obtain ⟨⟨b, off, h1, h2, h3⟩, h4, h5⟩ := h
    exact ⟨⟨b, off, h1, Nat.lt_of_lt_of_le h2 hB.size, h3.below hB h2⟩, TreeIn.below hB t h4, KidsIn.below hB ka (i + 1) r h5⟩
end
theorem RowTree.below {w W : World} {a : Option Addr} {l : List TreeM} (h : RowTree w a l) (hB : Below w.heap.size w W) : RowTree W a l := RowOf.below h hB fun t h => TreeIn.below hB t h
end Go.Proofs.Ytiihdbchchnncaa
