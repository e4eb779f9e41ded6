import Derived.Test.YtiihdbchchnncaaV
import Derived.IntWalk
import Derived.Test.YtiihdbchchnncaaC1
namespace Go.Proofs.Ytiihdbchchnncaa
open Go Go.RowKit

section
variable {w : World} {o : Oper} {ρ : Operand → Value}

theorem ld3 {x : Operand} {p : Addr} {v : Value} (ho : o.op = .load 3 x) (hx : ρ x = .pointer (some p)) (hc : w.cell? p = some v) : (execOp ρ o).run Try.prog w = .ok (.value v) w := by
  unfold execOp; rw [ho]; simp only [hx]
  go_simp

theorem ld4 {x : Operand} {p : Addr} {v : Value} (ho : o.op = .load 4 x) (hx : ρ x = .pointer (some p)) (hc : w.cell? p = some v) : (execOp ρ o).run Try.prog w = .ok (.value v) w := by
  unfold execOp; rw [ho]; simp only [hx]
  go_simp

theorem ld5 {x : Operand} {p : Addr} {v : Value} (ho : o.op = .load 5 x) (hx : ρ x = .pointer (some p)) (hc : w.cell? p = some v) : (execOp ρ o).run Try.prog w = .ok (.value v) w := by
  unfold execOp; rw [ho]; simp only [hx]
  go_simp

theorem ld9 {x : Operand} {p : Addr} {v : Value} (ho : o.op = .load 9 x) (hx : ρ x = .pointer (some p)) (hc : w.cell? p = some v) : (execOp ρ o).run Try.prog w = .ok (.value v) w := by
  unfold execOp; rw [ho]; simp only [hx]
  go_simp

theorem ld22 {x : Operand} {p : Addr} {v : Value} (ho : o.op = .load 22 x) (hx : ρ x = .pointer (some p)) (hc : w.cell? p = some v) : (execOp ρ o).run Try.prog w = .ok (.value v) w := by
  unfold execOp; rw [ho]; simp only [hx]
  go_simp

theorem ld23 {x : Operand} {p : Addr} {v : Value} (ho : o.op = .load 23 x) (hx : ρ x = .pointer (some p)) (hc : w.cell? p = some v) : (execOp ρ o).run Try.prog w = .ok (.value v) w := by
  unfold execOp; rw [ho]; simp only [hx]
  go_simp

theorem ld24 {x : Operand} {p : Addr} {v : Value} (ho : o.op = .load 24 x) (hx : ρ x = .pointer (some p)) (hc : w.cell? p = some v) : (execOp ρ o).run Try.prog w = .ok (.value v) w := by
  unfold execOp; rw [ho]; simp only [hx]
  go_simp

theorem ld25 {x : Operand} {p : Addr} {v : Value} (ho : o.op = .load 25 x) (hx : ρ x = .pointer (some p)) (hc : w.cell? p = some v) : (execOp ρ o).run Try.prog w = .ok (.value v) w := by
  unfold execOp; rw [ho]; simp only [hx]
  go_simp

theorem ld32 {x : Operand} {p : Addr} {v : Value} (ho : o.op = .load 32 x) (hx : ρ x = .pointer (some p)) (hc : w.cell? p = some v) : (execOp ρ o).run Try.prog w = .ok (.value v) w := by
  unfold execOp; rw [ho]; simp only [hx]
  go_simp

theorem ld40 {x : Operand} {p : Addr} {v : Value} (ho : o.op = .load 40 x) (hx : ρ x = .pointer (some p)) (hc : w.cell? p = some v) : (execOp ρ o).run Try.prog w = .ok (.value v) w := by
  unfold execOp; rw [ho]; simp only [hx]
  go_simp

theorem ld43 {x : Operand} {p : Addr} {v : Value} (ho : o.op = .load 43 x) (hx : ρ x = .pointer (some p)) (hc : w.cell? p = some v) : (execOp ρ o).run Try.prog w = .ok (.value v) w := by
  unfold execOp; rw [ho]; simp only [hx]
  go_simp

theorem ld44 {x : Operand} {p : Addr} {v : Value} (ho : o.op = .load 44 x) (hx : ρ x = .pointer (some p)) (hc : w.cell? p = some v) : (execOp ρ o).run Try.prog w = .ok (.value v) w := by
  unfold execOp; rw [ho]; simp only [hx]
  go_simp

theorem ld49 {x : Operand} {p : Addr} {v : Value} (ho : o.op = .load 49 x) (hx : ρ x = .pointer (some p)) (hc : w.cell? p = some v) : (execOp ρ o).run Try.prog w = .ok (.value v) w := by
  unfold execOp; rw [ho]; simp only [hx]
  go_simp

theorem ld63 {x : Operand} {p : Addr} {v : Value} (ho : o.op = .load 63 x) (hx : ρ x = .pointer (some p)) (hc : w.cell? p = some v) : (execOp ρ o).run Try.prog w = .ok (.value v) w := by
  unfold execOp; rw [ho]; simp only [hx]
  go_simp

theorem ld64 {x : Operand} {p : Addr} {v : Value} (ho : o.op = .load 64 x) (hx : ρ x = .pointer (some p)) (hc : w.cell? p = some v) : (execOp ρ o).run Try.prog w = .ok (.value v) w := by
  unfold execOp; rw [ho]; simp only [hx]
  go_simp

theorem ld82 {x : Operand} {p : Addr} {v : Value} (ho : o.op = .load 82 x) (hx : ρ x = .pointer (some p)) (hc : w.cell? p = some v) : (execOp ρ o).run Try.prog w = .ok (.value v) w := by
  unfold execOp; rw [ho]; simp only [hx]
  go_simp

theorem ld89 {x : Operand} {p : Addr} {v : Value} (ho : o.op = .load 89 x) (hx : ρ x = .pointer (some p)) (hc : w.cell? p = some v) : (execOp ρ o).run Try.prog w = .ok (.value v) w := by
  unfold execOp; rw [ho]; simp only [hx]
  go_simp

theorem ld101 {x : Operand} {p : Addr} {v : Value} (ho : o.op = .load 101 x) (hx : ρ x = .pointer (some p)) (hc : w.cell? p = some v) : (execOp ρ o).run Try.prog w = .ok (.value v) w := by
  unfold execOp; rw [ho]; simp only [hx]
  go_simp

theorem ld105 {x : Operand} {p : Addr} {v : Value} (ho : o.op = .load 105 x) (hx : ρ x = .pointer (some p)) (hc : w.cell? p = some v) : (execOp ρ o).run Try.prog w = .ok (.value v) w := by
  unfold execOp; rw [ho]; simp only [hx]
  go_simp

theorem ld115 {x : Operand} {p : Addr} {v : Value} (ho : o.op = .load 115 x) (hx : ρ x = .pointer (some p)) (hc : w.cell? p = some v) : (execOp ρ o).run Try.prog w = .ok (.value v) w := by
  unfold execOp; rw [ho]; simp only [hx]
  go_simp

theorem ld68 {x : Operand} {b q : Nat} {v : SymM} (ho : o.op = .load 68 x) (hx : ρ x = .pointer (some ⟨b, q, none⟩)) (hc : CellsAt w b q (symC v)) : (execOp ρ o).run Try.prog w = .ok (.value (.agg (symC v))) w := by
  obtain ⟨c0, c1, c2, c3, c4, c5⟩ := Sym_at hc
  unfold symC
  unfold execOp; rw [ho]; simp only [hx]
  go_simp

theorem ld46 {x : Operand} {b q : Nat} {v : ProdM} (ho : o.op = .load 46 x) (hx : ρ x = .pointer (some ⟨b, q, none⟩)) (hc : CellsAt w b q (prodC v)) : (execOp ρ o).run Try.prog w = .ok (.value (.agg (prodC v))) w := by
  obtain ⟨c0, c1, c2, c3, c4, c5, c6⟩ := Prod_at hc
  unfold prodC
  unfold execOp; rw [ho]; simp only [hx]
  go_simp

theorem ld78 {x : Operand} {b q : Nat} {v : ForM} (ho : o.op = .load 78 x) (hx : ρ x = .pointer (some ⟨b, q, none⟩)) (hc : CellsAt w b q (forC v)) : (execOp ρ o).run Try.prog w = .ok (.value (.agg (forC v))) w := by
  obtain ⟨c0, c1, c2⟩ := For_at hc
  unfold forC
  unfold execOp; rw [ho]; simp only [hx]
  go_simp

theorem ld80 {x : Operand} {b q : Nat} {v : FolM} (ho : o.op = .load 80 x) (hx : ρ x = .pointer (some ⟨b, q, none⟩)) (hc : CellsAt w b q (folC v)) : (execOp ρ o).run Try.prog w = .ok (.value (.agg (folC v))) w := by
  obtain ⟨c0, c1, c2, c3, c4⟩ := Fol_at hc
  unfold folC
  unfold execOp; rw [ho]; simp only [hx]
  go_simp

theorem ld27 {x : Operand} {b q : Nat} {v : GramM} (ho : o.op = .load 27 x) (hx : ρ x = .pointer (some ⟨b, q, none⟩)) (hc : CellsAt w b q (gramC v)) : (execOp ρ o).run Try.prog w = .ok (.value (.agg (gramC v))) w := by
  obtain ⟨c0, c1, c2, c3, c4⟩ := Gram_at hc
  unfold gramC
  unfold execOp; rw [ho]; simp only [hx]
  go_simp

theorem ld51 {x : Operand} {b q : Nat} {p y : Int} {ka : Option Addr} {kc : Nat} {kids : List TreeM} (ho : o.op = .load 51 x) (hx : ρ x = .pointer (some ⟨b, q, none⟩)) (hc : CellsAt w b q (treeC (.node p y ka kc kids))) : (execOp ρ o).run Try.prog w = .ok (.value (.agg #[.int .i64 p, .int .u8 y, .slice ka kids.length kc])) w := by
  obtain ⟨c0, c1, c2⟩ := Tree_at hc
  unfold execOp; rw [ho]; simp only [hx]
  go_simp

theorem len22 {x : Operand} {a : Option Addr} {n c : Nat} (ho : o.op = .call { callee := .builtin .len, args := #[x], argTypes := #[22] }) (hx : ρ x = .slice a n c) : (execOp ρ o).run Try.prog w = .ok (.value (.int .i64 n)) w := by
  unfold execOp; rw [ho]; simp only [resolve, invoke, builtin, List.map_toArray, List.map_cons, List.map_nil, hx]; go_simp

theorem len23 {x : Operand} {a : Option Addr} {n c : Nat} (ho : o.op = .call { callee := .builtin .len, args := #[x], argTypes := #[23] }) (hx : ρ x = .slice a n c) : (execOp ρ o).run Try.prog w = .ok (.value (.int .i64 n)) w := by
  unfold execOp; rw [ho]; simp only [resolve, invoke, builtin, List.map_toArray, List.map_cons, List.map_nil, hx]; go_simp

theorem len24 {x : Operand} {a : Option Addr} {n c : Nat} (ho : o.op = .call { callee := .builtin .len, args := #[x], argTypes := #[24] }) (hx : ρ x = .slice a n c) : (execOp ρ o).run Try.prog w = .ok (.value (.int .i64 n)) w := by
  unfold execOp; rw [ho]; simp only [resolve, invoke, builtin, List.map_toArray, List.map_cons, List.map_nil, hx]; go_simp

theorem len25 {x : Operand} {a : Option Addr} {n c : Nat} (ho : o.op = .call { callee := .builtin .len, args := #[x], argTypes := #[25] }) (hx : ρ x = .slice a n c) : (execOp ρ o).run Try.prog w = .ok (.value (.int .i64 n)) w := by
  unfold execOp; rw [ho]; simp only [resolve, invoke, builtin, List.map_toArray, List.map_cons, List.map_nil, hx]; go_simp

theorem len40 {x : Operand} {a : Option Addr} {n c : Nat} (ho : o.op = .call { callee := .builtin .len, args := #[x], argTypes := #[40] }) (hx : ρ x = .slice a n c) : (execOp ρ o).run Try.prog w = .ok (.value (.int .i64 n)) w := by
  unfold execOp; rw [ho]; simp only [resolve, invoke, builtin, List.map_toArray, List.map_cons, List.map_nil, hx]; go_simp

theorem len43 {x : Operand} {a : Option Addr} {n c : Nat} (ho : o.op = .call { callee := .builtin .len, args := #[x], argTypes := #[43] }) (hx : ρ x = .slice a n c) : (execOp ρ o).run Try.prog w = .ok (.value (.int .i64 n)) w := by
  unfold execOp; rw [ho]; simp only [resolve, invoke, builtin, List.map_toArray, List.map_cons, List.map_nil, hx]; go_simp

theorem len49 {x : Operand} {a : Option Addr} {n c : Nat} (ho : o.op = .call { callee := .builtin .len, args := #[x], argTypes := #[49] }) (hx : ρ x = .slice a n c) : (execOp ρ o).run Try.prog w = .ok (.value (.int .i64 n)) w := by
  unfold execOp; rw [ho]; simp only [resolve, invoke, builtin, List.map_toArray, List.map_cons, List.map_nil, hx]; go_simp

theorem len82 {x : Operand} {a : Option Addr} {n c : Nat} (ho : o.op = .call { callee := .builtin .len, args := #[x], argTypes := #[82] }) (hx : ρ x = .slice a n c) : (execOp ρ o).run Try.prog w = .ok (.value (.int .i64 n)) w := by
  unfold execOp; rw [ho]; simp only [resolve, invoke, builtin, List.map_toArray, List.map_cons, List.map_nil, hx]; go_simp

theorem len87 {x : Operand} {a : Option Addr} {n c : Nat} (ho : o.op = .call { callee := .builtin .len, args := #[x], argTypes := #[87] }) (hx : ρ x = .slice a n c) : (execOp ρ o).run Try.prog w = .ok (.value (.int .i64 n)) w := by
  unfold execOp; rw [ho]; simp only [resolve, invoke, builtin, List.map_toArray, List.map_cons, List.map_nil, hx]; go_simp

theorem len9 {x : Operand} {s : ByteArray} (ho : o.op = .call { callee := .builtin .len, args := #[x], argTypes := #[9] }) (hx : ρ x = .string s) : (execOp ρ o).run Try.prog w = .ok (.value (.int .i64 s.size)) w := by
  unfold execOp; rw [ho]; simp only [resolve, invoke, builtin, List.map_toArray, List.map_cons, List.map_nil, hx]; go_simp
theorem len89 {x : Operand} {v : Value} {n : Int} (ho : o.op = .call { callee := .builtin .len, args := #[x], argTypes := #[89] }) (hx : ρ x = v) (hl : (Builtin.len_ #[89] o.type #[v]).run Try.prog w = .ok (.int .i64 n) w) : (execOp ρ o).run Try.prog w = .ok (.value (.int .i64 n)) w := by
  unfold execOp; rw [ho]; simp only [resolve, invoke, builtin, List.map_toArray, List.map_cons, List.map_nil, hx]; simp [hl, Result.andThen]

theorem ex_leq {x y : Operand} {a b : Int} {r : Bool} (ho : o.op = .binOp .leq 3 x y 3) (hx : ρ x = .int .i64 a) (hy : ρ y = .int .i64 b) (h : decide (a ≤ b) = r) : (execOp ρ o).run Try.prog w = .ok (.value (.bool r)) w := by
  unfold execOp; rw [ho]; simp only [hx, hy]
  subst h
  go_simp

theorem ex_lss {x y : Operand} {a b : Int} {r : Bool} (ho : o.op = .binOp .lss 3 x y 3) (hx : ρ x = .int .i64 a) (hy : ρ y = .int .i64 b) (h : decide (a < b) = r) : (execOp ρ o).run Try.prog w = .ok (.value (.bool r)) w := by
  unfold execOp; rw [ho]; simp only [hx, hy]
  subst h
  go_simp

theorem ex_gtr {x y : Operand} {a b : Int} {r : Bool} (ho : o.op = .binOp .gtr 3 x y 3) (hx : ρ x = .int .i64 a) (hy : ρ y = .int .i64 b) (h : decide (b < a) = r) : (execOp ρ o).run Try.prog w = .ok (.value (.bool r)) w := by
  unfold execOp; rw [ho]; simp only [hx, hy]
  subst h
  go_simp

theorem ex_geq {x y : Operand} {a b : Int} {r : Bool} (ho : o.op = .binOp .geq 3 x y 3) (hx : ρ x = .int .i64 a) (hy : ρ y = .int .i64 b) (h : decide (b ≤ a) = r) : (execOp ρ o).run Try.prog w = .ok (.value (.bool r)) w := by
  unfold execOp; rw [ho]; simp only [hx, hy]
  subst h
  go_simp

theorem ex_eql3 {x y : Operand} {a b : Int} {r : Bool} (ho : o.op = .binOp .eql 3 x y 3) (hx : ρ x = .int .i64 a) (hy : ρ y = .int .i64 b) (h : (a == b) = r) : (execOp ρ o).run Try.prog w = .ok (.value (.bool r)) w := by
  unfold execOp; rw [ho]; simp only [hx, hy]
  go_simp
theorem ex_neq3 {x y : Operand} {a b : Int} {r : Bool} (ho : o.op = .binOp .neq 3 x y 3) (hx : ρ x = .int .i64 a) (hy : ρ y = .int .i64 b) (h : (a == b) = !r) : (execOp ρ o).run Try.prog w = .ok (.value (.bool r)) w := by
  unfold execOp; rw [ho]; simp only [hx, hy]
  have h2 : (a != b) = r := by simp [bne, h]
  go_simp

theorem ex_eql32 {x y : Operand} {a b : Int} {r : Bool} (ho : o.op = .binOp .eql 32 x y 32) (hx : ρ x = .int .i64 a) (hy : ρ y = .int .i64 b) (h : (a == b) = r) : (execOp ρ o).run Try.prog w = .ok (.value (.bool r)) w := by
  unfold execOp; rw [ho]; simp only [hx, hy]
  go_simp
theorem ex_neq32 {x y : Operand} {a b : Int} {r : Bool} (ho : o.op = .binOp .neq 32 x y 32) (hx : ρ x = .int .i64 a) (hy : ρ y = .int .i64 b) (h : (a == b) = !r) : (execOp ρ o).run Try.prog w = .ok (.value (.bool r)) w := by
  unfold execOp; rw [ho]; simp only [hx, hy]
  have h2 : (a != b) = r := by simp [bne, h]
  go_simp

theorem ex_eql44 {x y : Operand} {a b : Int} {r : Bool} (ho : o.op = .binOp .eql 44 x y 44) (hx : ρ x = .int .i64 a) (hy : ρ y = .int .i64 b) (h : (a == b) = r) : (execOp ρ o).run Try.prog w = .ok (.value (.bool r)) w := by
  unfold execOp; rw [ho]; simp only [hx, hy]
  go_simp
theorem ex_neq44 {x y : Operand} {a b : Int} {r : Bool} (ho : o.op = .binOp .neq 44 x y 44) (hx : ρ x = .int .i64 a) (hy : ρ y = .int .i64 b) (h : (a == b) = !r) : (execOp ρ o).run Try.prog w = .ok (.value (.bool r)) w := by
  unfold execOp; rw [ho]; simp only [hx, hy]
  have h2 : (a != b) = r := by simp [bne, h]
  go_simp

theorem ex_eql63 {x y : Operand} {a b : Int} {r : Bool} (ho : o.op = .binOp .eql 63 x y 63) (hx : ρ x = .int .i64 a) (hy : ρ y = .int .i64 b) (h : (a == b) = r) : (execOp ρ o).run Try.prog w = .ok (.value (.bool r)) w := by
  unfold execOp; rw [ho]; simp only [hx, hy]
  go_simp
theorem ex_neq63 {x y : Operand} {a b : Int} {r : Bool} (ho : o.op = .binOp .neq 63 x y 63) (hx : ρ x = .int .i64 a) (hy : ρ y = .int .i64 b) (h : (a == b) = !r) : (execOp ρ o).run Try.prog w = .ok (.value (.bool r)) w := by
  unfold execOp; rw [ho]; simp only [hx, hy]
  have h2 : (a != b) = r := by simp [bne, h]
  go_simp

theorem ix22 {x y : Operand} {g f n c k q : Nat} (ho : o.op = .indexAddr 22 x y) (hx : ρ x = .slice (some ⟨g, f, none⟩) n c) (hy : ρ y = .int .i64 (k : Int)) (hk : k < n) (hq : f + k = q) : (execOp ρ o).run Try.prog w = .ok (.value (.pointer (some ⟨g, q, none⟩))) w := by
  subst hq
  unfold execOp; rw [ho]; simp only [hx, hy]
  have h0 : (0 : Int) ≤ k := by omega
  have h1 : (k : Int) < n := by omega
  go_simp

theorem ix23 {x y : Operand} {g f n c k q : Nat} (ho : o.op = .indexAddr 23 x y) (hx : ρ x = .slice (some ⟨g, f, none⟩) n c) (hy : ρ y = .int .i64 (k : Int)) (hk : k < n) (hq : f + k * 7 = q) : (execOp ρ o).run Try.prog w = .ok (.value (.pointer (some ⟨g, q, none⟩))) w := by
  subst hq
  unfold execOp; rw [ho]; simp only [hx, hy]
  have h0 : (0 : Int) ≤ k := by omega
  have h1 : (k : Int) < n := by omega
  go_simp

theorem ix24 {x y : Operand} {g f n c k q : Nat} (ho : o.op = .indexAddr 24 x y) (hx : ρ x = .slice (some ⟨g, f, none⟩) n c) (hy : ρ y = .int .i64 (k : Int)) (hk : k < n) (hq : f + k * 3 = q) : (execOp ρ o).run Try.prog w = .ok (.value (.pointer (some ⟨g, q, none⟩))) w := by
  subst hq
  unfold execOp; rw [ho]; simp only [hx, hy]
  have h0 : (0 : Int) ≤ k := by omega
  have h1 : (k : Int) < n := by omega
  go_simp

theorem ix25 {x y : Operand} {g f n c k q : Nat} (ho : o.op = .indexAddr 25 x y) (hx : ρ x = .slice (some ⟨g, f, none⟩) n c) (hy : ρ y = .int .i64 (k : Int)) (hk : k < n) (hq : f + k * 5 = q) : (execOp ρ o).run Try.prog w = .ok (.value (.pointer (some ⟨g, q, none⟩))) w := by
  subst hq
  unfold execOp; rw [ho]; simp only [hx, hy]
  have h0 : (0 : Int) ≤ k := by omega
  have h1 : (k : Int) < n := by omega
  go_simp

theorem ix40 {x y : Operand} {g f n c k q : Nat} (ho : o.op = .indexAddr 40 x y) (hx : ρ x = .slice (some ⟨g, f, none⟩) n c) (hy : ρ y = .int .i64 (k : Int)) (hk : k < n) (hq : f + k = q) : (execOp ρ o).run Try.prog w = .ok (.value (.pointer (some ⟨g, q, none⟩))) w := by
  subst hq
  unfold execOp; rw [ho]; simp only [hx, hy]
  have h0 : (0 : Int) ≤ k := by omega
  have h1 : (k : Int) < n := by omega
  go_simp

theorem ix43 {x y : Operand} {g f n c k q : Nat} (ho : o.op = .indexAddr 43 x y) (hx : ρ x = .slice (some ⟨g, f, none⟩) n c) (hy : ρ y = .int .i64 (k : Int)) (hk : k < n) (hq : f + k * 6 = q) : (execOp ρ o).run Try.prog w = .ok (.value (.pointer (some ⟨g, q, none⟩))) w := by
  subst hq
  unfold execOp; rw [ho]; simp only [hx, hy]
  have h0 : (0 : Int) ≤ k := by omega
  have h1 : (k : Int) < n := by omega
  go_simp

theorem ix49 {x y : Operand} {g f n c k q : Nat} (ho : o.op = .indexAddr 49 x y) (hx : ρ x = .slice (some ⟨g, f, none⟩) n c) (hy : ρ y = .int .i64 (k : Int)) (hk : k < n) (hq : f + k * 3 = q) : (execOp ρ o).run Try.prog w = .ok (.value (.pointer (some ⟨g, q, none⟩))) w := by
  subst hq
  unfold execOp; rw [ho]; simp only [hx, hy]
  have h0 : (0 : Int) ≤ k := by omega
  have h1 : (k : Int) < n := by omega
  go_simp

theorem ix82 {x y : Operand} {g f n c k q : Nat} (ho : o.op = .indexAddr 82 x y) (hx : ρ x = .slice (some ⟨g, f, none⟩) n c) (hy : ρ y = .int .i64 (k : Int)) (hk : k < n) (hq : f + k = q) : (execOp ρ o).run Try.prog w = .ok (.value (.pointer (some ⟨g, q, none⟩))) w := by
  subst hq
  unfold execOp; rw [ho]; simp only [hx, hy]
  have h0 : (0 : Int) ≤ k := by omega
  have h1 : (k : Int) < n := by omega
  go_simp

theorem fa27_0 {x : Operand} {g m : Nat} (ho : o.op = .fieldAddr 27 x 0) (hx : ρ x = .pointer (some ⟨g, m, none⟩)) : (execOp ρ o).run Try.prog w = .ok (.value (.pointer (some ⟨g, m, none⟩))) w := by
  unfold execOp; rw [ho]; simp only [hx]
  go_simp

theorem fa27_1 {x : Operand} {g m : Nat} (ho : o.op = .fieldAddr 27 x 1) (hx : ρ x = .pointer (some ⟨g, m, none⟩)) : (execOp ρ o).run Try.prog w = .ok (.value (.pointer (some ⟨g, m + 1, none⟩))) w := by
  unfold execOp; rw [ho]; simp only [hx]
  go_simp

theorem fa27_2 {x : Operand} {g m : Nat} (ho : o.op = .fieldAddr 27 x 2) (hx : ρ x = .pointer (some ⟨g, m, none⟩)) : (execOp ρ o).run Try.prog w = .ok (.value (.pointer (some ⟨g, m + 2, none⟩))) w := by
  unfold execOp; rw [ho]; simp only [hx]
  go_simp

theorem fa27_3 {x : Operand} {g m : Nat} (ho : o.op = .fieldAddr 27 x 3) (hx : ρ x = .pointer (some ⟨g, m, none⟩)) : (execOp ρ o).run Try.prog w = .ok (.value (.pointer (some ⟨g, m + 3, none⟩))) w := by
  unfold execOp; rw [ho]; simp only [hx]
  go_simp

theorem fa27_4 {x : Operand} {g m : Nat} (ho : o.op = .fieldAddr 27 x 4) (hx : ρ x = .pointer (some ⟨g, m, none⟩)) : (execOp ρ o).run Try.prog w = .ok (.value (.pointer (some ⟨g, m + 4, none⟩))) w := by
  unfold execOp; rw [ho]; simp only [hx]
  go_simp

theorem fa46_0 {x : Operand} {g m : Nat} (ho : o.op = .fieldAddr 46 x 0) (hx : ρ x = .pointer (some ⟨g, m, none⟩)) : (execOp ρ o).run Try.prog w = .ok (.value (.pointer (some ⟨g, m, none⟩))) w := by
  unfold execOp; rw [ho]; simp only [hx]
  go_simp

theorem fa46_1 {x : Operand} {g m : Nat} (ho : o.op = .fieldAddr 46 x 1) (hx : ρ x = .pointer (some ⟨g, m, none⟩)) : (execOp ρ o).run Try.prog w = .ok (.value (.pointer (some ⟨g, m + 1, none⟩))) w := by
  unfold execOp; rw [ho]; simp only [hx]
  go_simp

theorem fa46_2 {x : Operand} {g m : Nat} (ho : o.op = .fieldAddr 46 x 2) (hx : ρ x = .pointer (some ⟨g, m, none⟩)) : (execOp ρ o).run Try.prog w = .ok (.value (.pointer (some ⟨g, m + 2, none⟩))) w := by
  unfold execOp; rw [ho]; simp only [hx]
  go_simp

theorem fa46_3 {x : Operand} {g m : Nat} (ho : o.op = .fieldAddr 46 x 3) (hx : ρ x = .pointer (some ⟨g, m, none⟩)) : (execOp ρ o).run Try.prog w = .ok (.value (.pointer (some ⟨g, m + 3, none⟩))) w := by
  unfold execOp; rw [ho]; simp only [hx]
  go_simp

theorem fa46_4 {x : Operand} {g m : Nat} (ho : o.op = .fieldAddr 46 x 4) (hx : ρ x = .pointer (some ⟨g, m, none⟩)) : (execOp ρ o).run Try.prog w = .ok (.value (.pointer (some ⟨g, m + 4, none⟩))) w := by
  unfold execOp; rw [ho]; simp only [hx]
  go_simp

theorem fa46_5 {x : Operand} {g m : Nat} (ho : o.op = .fieldAddr 46 x 5) (hx : ρ x = .pointer (some ⟨g, m, none⟩)) : (execOp ρ o).run Try.prog w = .ok (.value (.pointer (some ⟨g, m + 5, none⟩))) w := by
  unfold execOp; rw [ho]; simp only [hx]
  go_simp

theorem fa46_6 {x : Operand} {g m : Nat} (ho : o.op = .fieldAddr 46 x 6) (hx : ρ x = .pointer (some ⟨g, m, none⟩)) : (execOp ρ o).run Try.prog w = .ok (.value (.pointer (some ⟨g, m + 6, none⟩))) w := by
  unfold execOp; rw [ho]; simp only [hx]
  go_simp

theorem fa68_0 {x : Operand} {g m : Nat} (ho : o.op = .fieldAddr 68 x 0) (hx : ρ x = .pointer (some ⟨g, m, none⟩)) : (execOp ρ o).run Try.prog w = .ok (.value (.pointer (some ⟨g, m, none⟩))) w := by
  unfold execOp; rw [ho]; simp only [hx]
  go_simp

theorem fa68_1 {x : Operand} {g m : Nat} (ho : o.op = .fieldAddr 68 x 1) (hx : ρ x = .pointer (some ⟨g, m, none⟩)) : (execOp ρ o).run Try.prog w = .ok (.value (.pointer (some ⟨g, m + 1, none⟩))) w := by
  unfold execOp; rw [ho]; simp only [hx]
  go_simp

theorem fa68_2 {x : Operand} {g m : Nat} (ho : o.op = .fieldAddr 68 x 2) (hx : ρ x = .pointer (some ⟨g, m, none⟩)) : (execOp ρ o).run Try.prog w = .ok (.value (.pointer (some ⟨g, m + 5, none⟩))) w := by
  unfold execOp; rw [ho]; simp only [hx]
  go_simp

theorem fa78_0 {x : Operand} {g m : Nat} (ho : o.op = .fieldAddr 78 x 0) (hx : ρ x = .pointer (some ⟨g, m, none⟩)) : (execOp ρ o).run Try.prog w = .ok (.value (.pointer (some ⟨g, m, none⟩))) w := by
  unfold execOp; rw [ho]; simp only [hx]
  go_simp

theorem fa78_1 {x : Operand} {g m : Nat} (ho : o.op = .fieldAddr 78 x 1) (hx : ρ x = .pointer (some ⟨g, m, none⟩)) : (execOp ρ o).run Try.prog w = .ok (.value (.pointer (some ⟨g, m + 1, none⟩))) w := by
  unfold execOp; rw [ho]; simp only [hx]
  go_simp

theorem fa78_2 {x : Operand} {g m : Nat} (ho : o.op = .fieldAddr 78 x 2) (hx : ρ x = .pointer (some ⟨g, m, none⟩)) : (execOp ρ o).run Try.prog w = .ok (.value (.pointer (some ⟨g, m + 2, none⟩))) w := by
  unfold execOp; rw [ho]; simp only [hx]
  go_simp

theorem fa80_0 {x : Operand} {g m : Nat} (ho : o.op = .fieldAddr 80 x 0) (hx : ρ x = .pointer (some ⟨g, m, none⟩)) : (execOp ρ o).run Try.prog w = .ok (.value (.pointer (some ⟨g, m, none⟩))) w := by
  unfold execOp; rw [ho]; simp only [hx]
  go_simp

theorem fa80_1 {x : Operand} {g m : Nat} (ho : o.op = .fieldAddr 80 x 1) (hx : ρ x = .pointer (some ⟨g, m, none⟩)) : (execOp ρ o).run Try.prog w = .ok (.value (.pointer (some ⟨g, m + 1, none⟩))) w := by
  unfold execOp; rw [ho]; simp only [hx]
  go_simp

theorem fa51_0 {x : Operand} {g m : Nat} (ho : o.op = .fieldAddr 51 x 0) (hx : ρ x = .pointer (some ⟨g, m, none⟩)) : (execOp ρ o).run Try.prog w = .ok (.value (.pointer (some ⟨g, m, none⟩))) w := by
  unfold execOp; rw [ho]; simp only [hx]
  go_simp

theorem fa51_1 {x : Operand} {g m : Nat} (ho : o.op = .fieldAddr 51 x 1) (hx : ρ x = .pointer (some ⟨g, m, none⟩)) : (execOp ρ o).run Try.prog w = .ok (.value (.pointer (some ⟨g, m + 1, none⟩))) w := by
  unfold execOp; rw [ho]; simp only [hx]
  go_simp

theorem fa51_2 {x : Operand} {g m : Nat} (ho : o.op = .fieldAddr 51 x 2) (hx : ρ x = .pointer (some ⟨g, m, none⟩)) : (execOp ρ o).run Try.prog w = .ok (.value (.pointer (some ⟨g, m + 2, none⟩))) w := by
  unfold execOp; rw [ho]; simp only [hx]
  go_simp

end
end Go.Proofs.Ytiihdbchchnncaa
