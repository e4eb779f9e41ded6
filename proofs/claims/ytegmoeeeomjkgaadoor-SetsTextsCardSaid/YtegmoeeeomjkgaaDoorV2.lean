import Derived.Test.YtegmoeeeomjkgaaDoorV
import Derived.Test.YtegmoeeeomjkgaaDoorX
import Derived.Test.YtegmoeeeomjkgaaDoorW
namespace Go.Proofs.YtegmoeeeomjkgaaDoor
open Go Go.RowKit Go.Vals

section
variable {o : Oper} {ρ : Operand → Value} {w : World}

theorem ex_load {x : Operand} {n : Nat} {z : BS} (ho : o.op = .load 29 x) (hx : ρ x = .pointer (some ⟨n, 0, none⟩)) (hb : Blk w n 29 (cset z)) : (execOp ρ o).run Tryd.prog w = .ok (.value (vset z)) w := by
  have c0 := hb.cell 0
  have c1 := hb.cell 1
  have c2 := hb.cell 2
  have c3 := hb.cell 3
  unfold cset at c0 c1 c2 c3
  simp only [List.getElem?_toArray, List.getElem?_cons_zero, List.getElem?_cons_succ] at c0 c1 c2 c3
  unfold execOp vset
  rw [ho]
  simp only [hx]
  go_simp

theorem ex_eq {x y : Operand} {ty : TypeId} {s t : BS} (ho : o.op = .binOp .eql 29 x y ty) (hx : ρ x = vset s) (hy : ρ y = vset t) : (execOp ρ o).run Tryd.prog w = .ok (.value (.bool (s == t))) w := by
  have h := eq_sets s t
  unfold vset at hx hy
  unfold execOp
  rw [ho]
  simp only [hx, hy]
  go_simp

theorem ex_eqB {x y : Operand} {ty : TypeId} {s t : Bool} (ho : o.op = .binOp .eql 4 x y ty) (hx : ρ x = .bool s) (hy : ρ y = .bool t) : (execOp ρ o).run Tryd.prog w = .ok (.value (.bool (s == t))) w := by
  unfold execOp
  rw [ho]
  simp only [hx, hy]
  cases s <;> cases t <;> kernel_rfl
theorem ex_eqT {x y : Operand} {ty : TypeId} {s t : BS} {r : Bool} (ho : o.op = .binOp .eql 29 x y ty) (hx : ρ x = vset s) (hy : ρ y = vset t) (h : (s == t) = r) : (execOp ρ o).run Tryd.prog w = .ok (.value (.bool r)) w := by
  rw [ex_eq ho hx hy, h]
theorem ex_eqBT {x y : Operand} {ty : TypeId} {s t r : Bool} (ho : o.op = .binOp .eql 4 x y ty) (hx : ρ x = .bool s) (hy : ρ y = .bool t) (h : (s == t) = r) : (execOp ρ o).run Tryd.prog w = .ok (.value (.bool r)) w := by
  rw [ex_eqB ho hx hy, h]

def cells3 (a b c : BS) : Array Value := #[.int .u64 (wdI a 0), .int .u64 (wdI a 1), .int .u64 (wdI a 2), .int .u64 (wdI a 3), .int .u64 (wdI b 0), .int .u64 (wdI b 1), .int .u64 (wdI b 2), .int .u64 (wdI b 3), .int .u64 (wdI c 0), .int .u64 (wdI c 1), .int .u64 (wdI c 2), .int .u64 (wdI c 3)]
theorem ex_slice3 {x y z : Operand} {a b c : BS} (ho : o.op = .buildSlice 43 3 #[(0, x), (1, y), (2, z)]) (hx : ρ x = vset a) (hy : ρ y = vset b) (hz : ρ z = vset c) :
    (execOp ρ o).run Tryd.prog w = .ok (.value (.slice (some ⟨w.heap.size, 0, none⟩) 3 3)) (w.alloc (.cells (cells3 a b c) 29)) := by
  unfold vset at hx hy hz
  unfold execOp cells3
  rw [ho]
  simp only [hx, hy, hz]
  go_simp
end

def JC (x y z : BS) : Prop := ∀ w, Calls Tryd.prog 40 #[vset x, vset y] w fun e w' => e = .returned (vset z) ∧ Below w.heap.size w w'
def MC (x y z : BS) : Prop := ∀ w, Calls Tryd.prog 26 #[vset x, vset y] w fun e w' => e = .returned (vset z) ∧ Below w.heap.size w w'
def WC (x y z : BS) : Prop := ∀ w, Calls Tryd.prog 28 #[vset x, vset y] w fun e w' => e = .returned (vset z) ∧ Below w.heap.size w w'
def IC (x y : BS) (p : Bool) : Prop := ∀ w, Calls Tryd.prog 30 #[vset x, vset y] w fun e w' => e = .returned (.bool p) ∧ Below w.heap.size w w'
theorem jcE {x y z : BS} (h : x ||| y = z) : JC x y z := fun w => by rw [← h]; exact join_any x y w
theorem mcE {x y z : BS} (h : x &&& y = z) : MC x y z := fun w => by rw [← h]; exact meet_any x y w
theorem wcE {x y z : BS} (h : x &&& ~~~y = z) : WC x y z := fun w => by rw [← h]; exact without_any x y w
theorem icE {x y : BS} {p : Bool} (h : (x &&& y == x) = p) : IC x y p := fun w => by rw [← h]; exact within_any x y w
theorem u3_call {a b c : BS} {W : World} {x : Value} (h : ∃ n, x = .slice (some ⟨n, 0, none⟩) 3 3 ∧ Blk W n 29 (cells3 a b c)) : Calls Tryd.prog 20 #[x] W fun e w' => e = .returned (vset (a ||| (b ||| c))) ∧ Below W.heap.size W w' := by
  obtain ⟨n, rfl, hb⟩ := h
  have h := union_any (some ⟨n, 0, none⟩) 3 [a, b, c] W (rowB_three hb) (by simp)
  have e : unionL [a, b, c] = a ||| (b ||| c) := by simp [unionL, BitVec.or_assoc]
  rw [e] at h
  exact h

theorem bs_trans (a b c : BS) (h1 : a &&& b = a) (h2 : b &&& c = b) : a &&& c = a := by
  rw [← h1, BitVec.and_assoc, h2]

theorem bs_ext {x y : BS} (h : ∀ j, j < 256 → x.getLsbD j = y.getLsbD j) : x = y := BitVec.eq_of_getLsbD_eq h
/-- The three boxes of the law, and what lay before. -/
def St (w W : World) (a b c : BS) : Prop := Below w.heap.size w W ∧ Blk W w.heap.size 29 (cset a) ∧ Blk W (w.heap.size + 1) 29 (cset b) ∧ Blk W (w.heap.size + 1 + 1) 29 (cset c)

theorem St.next {w W W' : World} {a b c : BS} (h : St w W a b c) (hB : Below W.heap.size W W') : St w W' a b c :=
  ⟨h.1.trans (hB.mono h.1.size), h.2.1.below hB h.2.1.lt, h.2.2.1.below hB h.2.2.1.lt, h.2.2.2.below hB h.2.2.2.lt⟩
/-- The law's own world: its three boxes. -/
theorem st_start (w : World) (a b c : BS) : St w (((w.alloc (.cells (cset a) 29)).alloc (.cells (cset b) 29)).alloc (.cells (cset c) 29)) a b c := by
  refine ⟨(((Below.refl _ w).alloc (Nat.le_refl _) _).alloc (by simp) _).alloc (by simp; omega) _, ?_, ?_, ?_⟩
  · exact ((Blk.new w 29 _).alloc _).alloc _
  · have h := (Blk.new (w.alloc (.cells (cset a) 29)) 29 (cset b)).alloc (.cells (cset c) 29)
    rw [World.size_alloc] at h; exact h
  · have h := Blk.new ((w.alloc (.cells (cset a) 29)).alloc (.cells (cset b) 29)) 29 (cset c)
    rw [World.size_alloc, World.size_alloc] at h; exact h

theorem St.drew {w W : World} {a b c : BS} (h : St w W a b c) : St w W.drew a b c := ⟨h.1.drew, h.2.1, h.2.2.1, h.2.2.2⟩

end Go.Proofs.YtegmoeeeomjkgaaDoor
