import Derived.Test.YtegmoeeeomjkgaaDoorJn0
namespace Go.Proofs.YtegmoeeeomjkgaaDoor
open Go Go.RowKit Go.Vals
section
variable {o : Oper} {ρ : Operand → Value} {w : World}
theorem ex_neT {x y : Operand} {ty : TypeId} {s : BS} (ho : o.op = .binOp .neq 29 x y ty) (hx : ρ x = vset s) (hy : ρ y = vset s) : (execOp ρ o).run Tryd.prog w = .ok (.value (.bool false)) w := by
  have h := eq_sets s s
  unfold vset at hx hy
  unfold execOp
  rw [ho]
  simp only [hx, hy]
  go_simp
theorem ex_neB {x y : Operand} {ty : TypeId} {s : Bool} (ho : o.op = .binOp .neq 4 x y ty) (hx : ρ x = .bool s) (hy : ρ y = .bool s) : (execOp ρ o).run Tryd.prog w = .ok (.value (.bool false)) w := by
  unfold execOp
  rw [ho]
  simp only [hx, hy]
  cases s <;> kernel_rfl
theorem ex_neI {x y : Operand} {n : Int} (ho : o.op = .binOp .neq 3 x y 3) (hx : ρ x = .int .i64 n) (hy : ρ y = .int .i64 n) : (execOp ρ o).run Tryd.prog w = .ok (.value (.bool false)) w := by
  unfold execOp; rw [ho]; simp only [hx, hy]
  go_simp
theorem ex_neU {x y : Operand} {n : Int} (ho : o.op = .binOp .neq 5 x y 5) (hx : ρ x = .int .u8 n) (hy : ρ y = .int .u8 n) : (execOp ρ o).run Tryd.prog w = .ok (.value (.bool false)) w := by
  unfold execOp; rw [ho]; simp only [hx, hy]
  go_simp
theorem ex_zero29 (ho : o.op = .build 29 #[]) : (execOp ρ o).run Tryd.prog w = .ok (.value (vset 0#256)) w := by
  rw [← vset_zero]
  unfold execOp; rw [ho]
  kernel_rfl
end
end Go.Proofs.YtegmoeeeomjkgaaDoor
