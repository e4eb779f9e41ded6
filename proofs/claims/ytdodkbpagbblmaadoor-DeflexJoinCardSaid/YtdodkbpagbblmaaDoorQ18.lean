import Derived.Test.YtdodkbpagbblmaaDoorQ17
namespace Go.Proofs.YtdodkbpagbblmaaDoor
open Go Go.RowKit

/-- A word with its place, as it lies in memory. -/
structure WordAt (w : World) (b o : Nat) (x : Wd × Int) : Prop where
  c0 : w.cell? ⟨b, o, none⟩ = some (.int .i64 x.1.kind)
  c1 : w.cell? ⟨b, o + 1, none⟩ = some (.int .i64 x.2)
  c2 : w.cell? ⟨b, o + 2, none⟩ = some (.string x.1.txt)
  c3 : w.cell? ⟨b, o + 3, none⟩ = some (.int .u64 (wdI x.1.set 0))
  c4 : w.cell? ⟨b, o + 4, none⟩ = some (.int .u64 (wdI x.1.set 1))
  c5 : w.cell? ⟨b, o + 5, none⟩ = some (.int .u64 (wdI x.1.set 2))
  c6 : w.cell? ⟨b, o + 6, none⟩ = some (.int .u64 (wdI x.1.set 3))
  c7 : w.cell? ⟨b, o + 7, none⟩ = some (.int .i64 x.1.num)
/-- Words as they lie behind a slice. -/
def RowW (w : World) (a : Option Addr) (l : List (Wd × Int)) : Prop :=
  ∀ (i : Nat) (x : Wd × Int), l[i]? = some x → ∃ b off, a = some ⟨b, off, none⟩ ∧ WordAt w b (off + i * 8) x
theorem WordAt.to {w W : World} {b o : Nat} {x : Wd × Int} (h : WordAt w b o x) (hb : W.heap[b]? = w.heap[b]?) : WordAt W b o x := by
  have k : ∀ o, W.cell? ⟨b, o, none⟩ = w.cell? ⟨b, o, none⟩ := fun o => World.cell?_of_block (w := w) hb
  exact ⟨(k _).trans h.c0, (k _).trans h.c1, (k _).trans h.c2, (k _).trans h.c3, (k _).trans h.c4, (k _).trans h.c5, (k _).trans h.c6, (k _).trans h.c7⟩
theorem WordAt.lt {w : World} {b o : Nat} {x : Wd × Int} (h : WordAt w b o x) : b < w.heap.size := lt_of_cell h.c0
theorem WordAt.below {w W : World} {n b o : Nat} {x : Wd × Int} (h : WordAt w b o x) (hB : Below n w W) (hn : b < n) : WordAt W b o x := h.to (hB.block b hn)
theorem RowW.to {w W : World} {a : Option Addr} {l : List (Wd × Int)} (h : RowW w a l) (hb : ∀ g o, a = some ⟨g, o, none⟩ → W.heap[g]? = w.heap[g]?) : RowW W a l := fun i x hx => by
  obtain ⟨b, off, rfl, k⟩ := h i x hx
  exact ⟨b, off, rfl, k.to (hb _ _ rfl)⟩
theorem RowW.below {w W : World} {a : Option Addr} {l : List (Wd × Int)} (h : RowW w a l) (hB : Below w.heap.size w W) : RowW W a l := fun i x hx => by
  obtain ⟨b, off, rfl, k⟩ := h i x hx
  exact ⟨b, off, rfl, k.below hB k.lt⟩

/-- Are two words the same, wherever they stand? -/
def sameW (x y : Wd) : Bool := x.kind == y.kind && (x.txt.toList == y.txt.toList && (x.set == y.set && x.num == y.num))

set_option maxRecDepth 100000 in
set_option maxHeartbeats 4000000 in
theorem same1_any (x y : Wd) (a b : Int) (w : World) : Calls Tryd.prog 20 #[wordV x a, wordV y b] w fun e w' => e = .returned (.bool (sameW x y)) ∧ Below w.heap.size w w' := by
  have HE := fun w' => Lib.hid (eq_wds 9996 x y b b w')
  obtain ⟨r, hr⟩ : ∃ r, r = sameW x y := ⟨_, rfl⟩
  have hrr : (x.kind == y.kind && (b == b && (x.txt.toList == y.txt.toList && (x.set == y.set && x.num == y.num)))) = r := by rw [hr]; unfold sameW; simp
  simp only [hrr] at HE
  rw [← hr]
  clear hr hrr
  have HE' := fun w' => (HE w').out
  unfold wordV wordC at *
  go_enter Tryd.func20, Tryd.ntmps20
  go_wp2
  go_ret
  exact ⟨rfl, ((Below.refl _ w).alloc (Nat.le_refl _) _).alloc (by simp) _⟩
end Go.Proofs.YtdodkbpagbblmaaDoor
