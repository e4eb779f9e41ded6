import Derived.IntWalk
import Derived.Deep.LoopGhost
import Derived.WalkMore
import Derived.Deep.OwnRows
import Derived.Deep.Cut
import Derived.Test.YtodnlcbnbkkanaaGreatDoorM1
import Derived.Test.YtodnlcbnbkkanaaGreatDoorM2
section
namespace Go.Proofs.YtodnlcbnbkkanaaGreatDoor
open Go Go.RowKit

section
variable {w : World} {o : Oper} {ρ : Operand → Value}

theorem ld3 {x : Operand} {p : Addr} {v : Value} (ho : o.op = .load 3 x) (hx : ρ x = .pointer (some p)) (hc : w.cell? p = some v) : (execOp ρ o).run Tryz.prog w = .ok (.value v) w := by
  unfold execOp; rw [ho]; simp only [hx]
  go_simp

theorem ld4 {x : Operand} {p : Addr} {v : Value} (ho : o.op = .load 4 x) (hx : ρ x = .pointer (some p)) (hc : w.cell? p = some v) : (execOp ρ o).run Tryz.prog w = .ok (.value v) w := by
  unfold execOp; rw [ho]; simp only [hx]
  go_simp

theorem ld5 {x : Operand} {p : Addr} {v : Value} (ho : o.op = .load 5 x) (hx : ρ x = .pointer (some p)) (hc : w.cell? p = some v) : (execOp ρ o).run Tryz.prog w = .ok (.value v) w := by
  unfold execOp; rw [ho]; simp only [hx]
  go_simp

theorem ld9 {x : Operand} {p : Addr} {v : Value} (ho : o.op = .load 9 x) (hx : ρ x = .pointer (some p)) (hc : w.cell? p = some v) : (execOp ρ o).run Tryz.prog w = .ok (.value v) w := by
  unfold execOp; rw [ho]; simp only [hx]
  go_simp

theorem ld22 {x : Operand} {p : Addr} {v : Value} (ho : o.op = .load 22 x) (hx : ρ x = .pointer (some p)) (hc : w.cell? p = some v) : (execOp ρ o).run Tryz.prog w = .ok (.value v) w := by
  unfold execOp; rw [ho]; simp only [hx]
  go_simp

theorem ld23 {x : Operand} {p : Addr} {v : Value} (ho : o.op = .load 23 x) (hx : ρ x = .pointer (some p)) (hc : w.cell? p = some v) : (execOp ρ o).run Tryz.prog w = .ok (.value v) w := by
  unfold execOp; rw [ho]; simp only [hx]
  go_simp

theorem ld24 {x : Operand} {p : Addr} {v : Value} (ho : o.op = .load 24 x) (hx : ρ x = .pointer (some p)) (hc : w.cell? p = some v) : (execOp ρ o).run Tryz.prog w = .ok (.value v) w := by
  unfold execOp; rw [ho]; simp only [hx]
  go_simp

theorem ld25 {x : Operand} {p : Addr} {v : Value} (ho : o.op = .load 25 x) (hx : ρ x = .pointer (some p)) (hc : w.cell? p = some v) : (execOp ρ o).run Tryz.prog w = .ok (.value v) w := by
  unfold execOp; rw [ho]; simp only [hx]
  go_simp

theorem ld32 {x : Operand} {p : Addr} {v : Value} (ho : o.op = .load 32 x) (hx : ρ x = .pointer (some p)) (hc : w.cell? p = some v) : (execOp ρ o).run Tryz.prog w = .ok (.value v) w := by
  unfold execOp; rw [ho]; simp only [hx]
  go_simp

theorem ld48 {x : Operand} {p : Addr} {v : Value} (ho : o.op = .load 48 x) (hx : ρ x = .pointer (some p)) (hc : w.cell? p = some v) : (execOp ρ o).run Tryz.prog w = .ok (.value v) w := by
  unfold execOp; rw [ho]; simp only [hx]
  go_simp

theorem ld62 {x : Operand} {p : Addr} {v : Value} (ho : o.op = .load 62 x) (hx : ρ x = .pointer (some p)) (hc : w.cell? p = some v) : (execOp ρ o).run Tryz.prog w = .ok (.value v) w := by
  unfold execOp; rw [ho]; simp only [hx]
  go_simp

theorem ld63 {x : Operand} {p : Addr} {v : Value} (ho : o.op = .load 63 x) (hx : ρ x = .pointer (some p)) (hc : w.cell? p = some v) : (execOp ρ o).run Tryz.prog w = .ok (.value v) w := by
  unfold execOp; rw [ho]; simp only [hx]
  go_simp

theorem ld68 {x : Operand} {p : Addr} {v : Value} (ho : o.op = .load 68 x) (hx : ρ x = .pointer (some p)) (hc : w.cell? p = some v) : (execOp ρ o).run Tryz.prog w = .ok (.value v) w := by
  unfold execOp; rw [ho]; simp only [hx]
  go_simp

theorem ld58 {x : Operand} {p : Addr} {v : Value} (ho : o.op = .load 58 x) (hx : ρ x = .pointer (some p)) (hc : w.cell? p = some v) : (execOp ρ o).run Tryz.prog w = .ok (.value v) w := by
  unfold execOp; rw [ho]; simp only [hx]
  go_simp

theorem ld45 {x : Operand} {p : Addr} {v : Value} (ho : o.op = .load 45 x) (hx : ρ x = .pointer (some p)) (hc : w.cell? p = some v) : (execOp ρ o).run Tryz.prog w = .ok (.value v) w := by
  unfold execOp; rw [ho]; simp only [hx]
  go_simp

theorem ld31 {x : Operand} {p : Addr} {v : Value} (ho : o.op = .load 31 x) (hx : ρ x = .pointer (some p)) (hc : w.cell? p = some v) : (execOp ρ o).run Tryz.prog w = .ok (.value v) w := by
  unfold execOp; rw [ho]; simp only [hx]
  go_simp

theorem ld169 {x : Operand} {p : Addr} {v : Value} (ho : o.op = .load 169 x) (hx : ρ x = .pointer (some p)) (hc : w.cell? p = some v) : (execOp ρ o).run Tryz.prog w = .ok (.value v) w := by
  unfold execOp; rw [ho]; simp only [hx]
  go_simp

theorem ld102 {x : Operand} {p : Addr} {v : Value} (ho : o.op = .load 102 x) (hx : ρ x = .pointer (some p)) (hc : w.cell? p = some v) : (execOp ρ o).run Tryz.prog w = .ok (.value v) w := by
  unfold execOp; rw [ho]; simp only [hx]
  go_simp

theorem ld144 {x : Operand} {p : Addr} {v : Value} (ho : o.op = .load 144 x) (hx : ρ x = .pointer (some p)) (hc : w.cell? p = some v) : (execOp ρ o).run Tryz.prog w = .ok (.value v) w := by
  unfold execOp; rw [ho]; simp only [hx]
  go_simp

theorem ld60 {x : Operand} {b q : Nat} {v : SymM} (ho : o.op = .load 60 x) (hx : ρ x = .pointer (some ⟨b, q, none⟩)) (hc : CellsAt w b q (symC v)) : (execOp ρ o).run Tryz.prog w = .ok (.value (.agg (symC v))) w := by
  obtain ⟨c0, c1, c2, c3, c4, c5⟩ := Sym_at hc
  unfold symC
  unfold execOp; rw [ho]; simp only [hx]
  go_simp

theorem ld65 {x : Operand} {b q : Nat} {v : ProdM} (ho : o.op = .load 65 x) (hx : ρ x = .pointer (some ⟨b, q, none⟩)) (hc : CellsAt w b q (prodC v)) : (execOp ρ o).run Tryz.prog w = .ok (.value (.agg (prodC v))) w := by
  obtain ⟨c0, c1, c2, c3, c4, c5, c6⟩ := Prod_at hc
  unfold prodC
  unfold execOp; rw [ho]; simp only [hx]
  go_simp

theorem ld85 {x : Operand} {b q : Nat} {v : ForM} (ho : o.op = .load 85 x) (hx : ρ x = .pointer (some ⟨b, q, none⟩)) (hc : CellsAt w b q (forC v)) : (execOp ρ o).run Tryz.prog w = .ok (.value (.agg (forC v))) w := by
  obtain ⟨c0, c1, c2⟩ := For_at hc
  unfold forC
  unfold execOp; rw [ho]; simp only [hx]
  go_simp

theorem ld87 {x : Operand} {b q : Nat} {v : FolM} (ho : o.op = .load 87 x) (hx : ρ x = .pointer (some ⟨b, q, none⟩)) (hc : CellsAt w b q (folC v)) : (execOp ρ o).run Tryz.prog w = .ok (.value (.agg (folC v))) w := by
  obtain ⟨c0, c1, c2, c3, c4⟩ := Fol_at hc
  unfold folC
  unfold execOp; rw [ho]; simp only [hx]
  go_simp

theorem ld27 {x : Operand} {b q : Nat} {v : GramM} (ho : o.op = .load 27 x) (hx : ρ x = .pointer (some ⟨b, q, none⟩)) (hc : CellsAt w b q (gramC v)) : (execOp ρ o).run Tryz.prog w = .ok (.value (.agg (gramC v))) w := by
  obtain ⟨c0, c1, c2, c3, c4⟩ := Gram_at hc
  unfold gramC
  unfold execOp; rw [ho]; simp only [hx]
  go_simp

theorem ld70 {x : Operand} {b q : Nat} {p y : Int} {ka : Option Addr} {kc : Nat} {kids : List TreeM} (ho : o.op = .load 70 x) (hx : ρ x = .pointer (some ⟨b, q, none⟩)) (hc : CellsAt w b q (treeC (.node p y ka kc kids))) : (execOp ρ o).run Tryz.prog w = .ok (.value (.agg #[.int .i64 p, .int .u8 y, .slice ka kids.length kc])) w := by
  obtain ⟨c0, c1, c2⟩ := Tree_at hc
  unfold execOp; rw [ho]; simp only [hx]
  go_simp

theorem len22 {x : Operand} {a : Option Addr} {n c : Nat} (ho : o.op = .call { callee := .builtin .len, args := #[x], argTypes := #[22] }) (hx : ρ x = .slice a n c) : (execOp ρ o).run Tryz.prog w = .ok (.value (.int .i64 n)) w := by
  unfold execOp; rw [ho]; simp only [resolve, invoke, builtin, List.map_toArray, List.map_cons, List.map_nil, hx]; go_simp

theorem len23 {x : Operand} {a : Option Addr} {n c : Nat} (ho : o.op = .call { callee := .builtin .len, args := #[x], argTypes := #[23] }) (hx : ρ x = .slice a n c) : (execOp ρ o).run Tryz.prog w = .ok (.value (.int .i64 n)) w := by
  unfold execOp; rw [ho]; simp only [resolve, invoke, builtin, List.map_toArray, List.map_cons, List.map_nil, hx]; go_simp

theorem len24 {x : Operand} {a : Option Addr} {n c : Nat} (ho : o.op = .call { callee := .builtin .len, args := #[x], argTypes := #[24] }) (hx : ρ x = .slice a n c) : (execOp ρ o).run Tryz.prog w = .ok (.value (.int .i64 n)) w := by
  unfold execOp; rw [ho]; simp only [resolve, invoke, builtin, List.map_toArray, List.map_cons, List.map_nil, hx]; go_simp

theorem len25 {x : Operand} {a : Option Addr} {n c : Nat} (ho : o.op = .call { callee := .builtin .len, args := #[x], argTypes := #[25] }) (hx : ρ x = .slice a n c) : (execOp ρ o).run Tryz.prog w = .ok (.value (.int .i64 n)) w := by
  unfold execOp; rw [ho]; simp only [resolve, invoke, builtin, List.map_toArray, List.map_cons, List.map_nil, hx]; go_simp

theorem len48 {x : Operand} {a : Option Addr} {n c : Nat} (ho : o.op = .call { callee := .builtin .len, args := #[x], argTypes := #[48] }) (hx : ρ x = .slice a n c) : (execOp ρ o).run Tryz.prog w = .ok (.value (.int .i64 n)) w := by
  unfold execOp; rw [ho]; simp only [resolve, invoke, builtin, List.map_toArray, List.map_cons, List.map_nil, hx]; go_simp

theorem len62 {x : Operand} {a : Option Addr} {n c : Nat} (ho : o.op = .call { callee := .builtin .len, args := #[x], argTypes := #[62] }) (hx : ρ x = .slice a n c) : (execOp ρ o).run Tryz.prog w = .ok (.value (.int .i64 n)) w := by
  unfold execOp; rw [ho]; simp only [resolve, invoke, builtin, List.map_toArray, List.map_cons, List.map_nil, hx]; go_simp

theorem len68 {x : Operand} {a : Option Addr} {n c : Nat} (ho : o.op = .call { callee := .builtin .len, args := #[x], argTypes := #[68] }) (hx : ρ x = .slice a n c) : (execOp ρ o).run Tryz.prog w = .ok (.value (.int .i64 n)) w := by
  unfold execOp; rw [ho]; simp only [resolve, invoke, builtin, List.map_toArray, List.map_cons, List.map_nil, hx]; go_simp

theorem len31 {x : Operand} {a : Option Addr} {n c : Nat} (ho : o.op = .call { callee := .builtin .len, args := #[x], argTypes := #[31] }) (hx : ρ x = .slice a n c) : (execOp ρ o).run Tryz.prog w = .ok (.value (.int .i64 n)) w := by
  unfold execOp; rw [ho]; simp only [resolve, invoke, builtin, List.map_toArray, List.map_cons, List.map_nil, hx]; go_simp

theorem len104 {x : Operand} {a : Option Addr} {n c : Nat} (ho : o.op = .call { callee := .builtin .len, args := #[x], argTypes := #[104] }) (hx : ρ x = .slice a n c) : (execOp ρ o).run Tryz.prog w = .ok (.value (.int .i64 n)) w := by
  unfold execOp; rw [ho]; simp only [resolve, invoke, builtin, List.map_toArray, List.map_cons, List.map_nil, hx]; go_simp

theorem len9 {x : Operand} {s : ByteArray} (ho : o.op = .call { callee := .builtin .len, args := #[x], argTypes := #[9] }) (hx : ρ x = .string s) : (execOp ρ o).run Tryz.prog w = .ok (.value (.int .i64 s.size)) w := by
  unfold execOp; rw [ho]; simp only [resolve, invoke, builtin, List.map_toArray, List.map_cons, List.map_nil, hx]; go_simp
theorem len169 {x : Operand} {v : Value} {n : Int} (ho : o.op = .call { callee := .builtin .len, args := #[x], argTypes := #[169] }) (hx : ρ x = v) (hl : (Builtin.len_ #[169] o.type #[v]).run Tryz.prog w = .ok (.int .i64 n) w) : (execOp ρ o).run Tryz.prog w = .ok (.value (.int .i64 n)) w := by
  unfold execOp; rw [ho]; simp only [resolve, invoke, builtin, List.map_toArray, List.map_cons, List.map_nil, hx]; simp [hl, Result.andThen]

theorem ex_leq {x y : Operand} {a b : Int} {r : Bool} (ho : o.op = .binOp .leq 3 x y 3) (hx : ρ x = .int .i64 a) (hy : ρ y = .int .i64 b) (h : decide (a ≤ b) = r) : (execOp ρ o).run Tryz.prog w = .ok (.value (.bool r)) w := by
  unfold execOp; rw [ho]; simp only [hx, hy]
  subst h
  go_simp

theorem ex_lss {x y : Operand} {a b : Int} {r : Bool} (ho : o.op = .binOp .lss 3 x y 3) (hx : ρ x = .int .i64 a) (hy : ρ y = .int .i64 b) (h : decide (a < b) = r) : (execOp ρ o).run Tryz.prog w = .ok (.value (.bool r)) w := by
  unfold execOp; rw [ho]; simp only [hx, hy]
  subst h
  go_simp

theorem ex_gtr {x y : Operand} {a b : Int} {r : Bool} (ho : o.op = .binOp .gtr 3 x y 3) (hx : ρ x = .int .i64 a) (hy : ρ y = .int .i64 b) (h : decide (b < a) = r) : (execOp ρ o).run Tryz.prog w = .ok (.value (.bool r)) w := by
  unfold execOp; rw [ho]; simp only [hx, hy]
  subst h
  go_simp

theorem ex_geq {x y : Operand} {a b : Int} {r : Bool} (ho : o.op = .binOp .geq 3 x y 3) (hx : ρ x = .int .i64 a) (hy : ρ y = .int .i64 b) (h : decide (b ≤ a) = r) : (execOp ρ o).run Tryz.prog w = .ok (.value (.bool r)) w := by
  unfold execOp; rw [ho]; simp only [hx, hy]
  subst h
  go_simp

theorem ex_eql3 {x y : Operand} {a b : Int} {r : Bool} (ho : o.op = .binOp .eql 3 x y 3) (hx : ρ x = .int .i64 a) (hy : ρ y = .int .i64 b) (h : (a == b) = r) : (execOp ρ o).run Tryz.prog w = .ok (.value (.bool r)) w := by
  unfold execOp; rw [ho]; simp only [hx, hy]
  go_simp
theorem ex_neq3 {x y : Operand} {a b : Int} {r : Bool} (ho : o.op = .binOp .neq 3 x y 3) (hx : ρ x = .int .i64 a) (hy : ρ y = .int .i64 b) (h : (a == b) = !r) : (execOp ρ o).run Tryz.prog w = .ok (.value (.bool r)) w := by
  unfold execOp; rw [ho]; simp only [hx, hy]
  have h2 : (a != b) = r := by simp [bne, h]
  go_simp

theorem ex_eql32 {x y : Operand} {a b : Int} {r : Bool} (ho : o.op = .binOp .eql 32 x y 32) (hx : ρ x = .int .i64 a) (hy : ρ y = .int .i64 b) (h : (a == b) = r) : (execOp ρ o).run Tryz.prog w = .ok (.value (.bool r)) w := by
  unfold execOp; rw [ho]; simp only [hx, hy]
  go_simp
theorem ex_neq32 {x y : Operand} {a b : Int} {r : Bool} (ho : o.op = .binOp .neq 32 x y 32) (hx : ρ x = .int .i64 a) (hy : ρ y = .int .i64 b) (h : (a == b) = !r) : (execOp ρ o).run Tryz.prog w = .ok (.value (.bool r)) w := by
  unfold execOp; rw [ho]; simp only [hx, hy]
  have h2 : (a != b) = r := by simp [bne, h]
  go_simp

theorem ex_eql63 {x y : Operand} {a b : Int} {r : Bool} (ho : o.op = .binOp .eql 63 x y 63) (hx : ρ x = .int .i64 a) (hy : ρ y = .int .i64 b) (h : (a == b) = r) : (execOp ρ o).run Tryz.prog w = .ok (.value (.bool r)) w := by
  unfold execOp; rw [ho]; simp only [hx, hy]
  go_simp
theorem ex_neq63 {x y : Operand} {a b : Int} {r : Bool} (ho : o.op = .binOp .neq 63 x y 63) (hx : ρ x = .int .i64 a) (hy : ρ y = .int .i64 b) (h : (a == b) = !r) : (execOp ρ o).run Tryz.prog w = .ok (.value (.bool r)) w := by
  unfold execOp; rw [ho]; simp only [hx, hy]
  have h2 : (a != b) = r := by simp [bne, h]
  go_simp

theorem ex_eql58 {x y : Operand} {a b : Int} {r : Bool} (ho : o.op = .binOp .eql 58 x y 58) (hx : ρ x = .int .i64 a) (hy : ρ y = .int .i64 b) (h : (a == b) = r) : (execOp ρ o).run Tryz.prog w = .ok (.value (.bool r)) w := by
  unfold execOp; rw [ho]; simp only [hx, hy]
  go_simp
theorem ex_neq58 {x y : Operand} {a b : Int} {r : Bool} (ho : o.op = .binOp .neq 58 x y 58) (hx : ρ x = .int .i64 a) (hy : ρ y = .int .i64 b) (h : (a == b) = !r) : (execOp ρ o).run Tryz.prog w = .ok (.value (.bool r)) w := by
  unfold execOp; rw [ho]; simp only [hx, hy]
  have h2 : (a != b) = r := by simp [bne, h]
  go_simp

theorem ix22 {x y : Operand} {g f n c k q : Nat} (ho : o.op = .indexAddr 22 x y) (hx : ρ x = .slice (some ⟨g, f, none⟩) n c) (hy : ρ y = .int .i64 (k : Int)) (hk : k < n) (hq : f + k = q) : (execOp ρ o).run Tryz.prog w = .ok (.value (.pointer (some ⟨g, q, none⟩))) w := by
  subst hq
  unfold execOp; rw [ho]; simp only [hx, hy]
  have h0 : (0 : Int) ≤ k := by omega
  have h1 : (k : Int) < n := by omega
  go_simp

theorem ix23 {x y : Operand} {g f n c k q : Nat} (ho : o.op = .indexAddr 23 x y) (hx : ρ x = .slice (some ⟨g, f, none⟩) n c) (hy : ρ y = .int .i64 (k : Int)) (hk : k < n) (hq : f + k * 7 = q) : (execOp ρ o).run Tryz.prog w = .ok (.value (.pointer (some ⟨g, q, none⟩))) w := by
  subst hq
  unfold execOp; rw [ho]; simp only [hx, hy]
  have h0 : (0 : Int) ≤ k := by omega
  have h1 : (k : Int) < n := by omega
  go_simp

theorem ix24 {x y : Operand} {g f n c k q : Nat} (ho : o.op = .indexAddr 24 x y) (hx : ρ x = .slice (some ⟨g, f, none⟩) n c) (hy : ρ y = .int .i64 (k : Int)) (hk : k < n) (hq : f + k * 3 = q) : (execOp ρ o).run Tryz.prog w = .ok (.value (.pointer (some ⟨g, q, none⟩))) w := by
  subst hq
  unfold execOp; rw [ho]; simp only [hx, hy]
  have h0 : (0 : Int) ≤ k := by omega
  have h1 : (k : Int) < n := by omega
  go_simp

theorem ix25 {x y : Operand} {g f n c k q : Nat} (ho : o.op = .indexAddr 25 x y) (hx : ρ x = .slice (some ⟨g, f, none⟩) n c) (hy : ρ y = .int .i64 (k : Int)) (hk : k < n) (hq : f + k * 5 = q) : (execOp ρ o).run Tryz.prog w = .ok (.value (.pointer (some ⟨g, q, none⟩))) w := by
  subst hq
  unfold execOp; rw [ho]; simp only [hx, hy]
  have h0 : (0 : Int) ≤ k := by omega
  have h1 : (k : Int) < n := by omega
  go_simp

theorem ix48 {x y : Operand} {g f n c k q : Nat} (ho : o.op = .indexAddr 48 x y) (hx : ρ x = .slice (some ⟨g, f, none⟩) n c) (hy : ρ y = .int .i64 (k : Int)) (hk : k < n) (hq : f + k = q) : (execOp ρ o).run Tryz.prog w = .ok (.value (.pointer (some ⟨g, q, none⟩))) w := by
  subst hq
  unfold execOp; rw [ho]; simp only [hx, hy]
  have h0 : (0 : Int) ≤ k := by omega
  have h1 : (k : Int) < n := by omega
  go_simp

theorem ix62 {x y : Operand} {g f n c k q : Nat} (ho : o.op = .indexAddr 62 x y) (hx : ρ x = .slice (some ⟨g, f, none⟩) n c) (hy : ρ y = .int .i64 (k : Int)) (hk : k < n) (hq : f + k * 6 = q) : (execOp ρ o).run Tryz.prog w = .ok (.value (.pointer (some ⟨g, q, none⟩))) w := by
  subst hq
  unfold execOp; rw [ho]; simp only [hx, hy]
  have h0 : (0 : Int) ≤ k := by omega
  have h1 : (k : Int) < n := by omega
  go_simp

theorem ix68 {x y : Operand} {g f n c k q : Nat} (ho : o.op = .indexAddr 68 x y) (hx : ρ x = .slice (some ⟨g, f, none⟩) n c) (hy : ρ y = .int .i64 (k : Int)) (hk : k < n) (hq : f + k * 3 = q) : (execOp ρ o).run Tryz.prog w = .ok (.value (.pointer (some ⟨g, q, none⟩))) w := by
  subst hq
  unfold execOp; rw [ho]; simp only [hx, hy]
  have h0 : (0 : Int) ≤ k := by omega
  have h1 : (k : Int) < n := by omega
  go_simp

theorem ix31 {x y : Operand} {g f n c k q : Nat} (ho : o.op = .indexAddr 31 x y) (hx : ρ x = .slice (some ⟨g, f, none⟩) n c) (hy : ρ y = .int .i64 (k : Int)) (hk : k < n) (hq : f + k = q) : (execOp ρ o).run Tryz.prog w = .ok (.value (.pointer (some ⟨g, q, none⟩))) w := by
  subst hq
  unfold execOp; rw [ho]; simp only [hx, hy]
  have h0 : (0 : Int) ≤ k := by omega
  have h1 : (k : Int) < n := by omega
  go_simp

theorem fa27_0 {x : Operand} {g m : Nat} (ho : o.op = .fieldAddr 27 x 0) (hx : ρ x = .pointer (some ⟨g, m, none⟩)) : (execOp ρ o).run Tryz.prog w = .ok (.value (.pointer (some ⟨g, m, none⟩))) w := by
  unfold execOp; rw [ho]; simp only [hx]
  go_simp

theorem fa27_1 {x : Operand} {g m : Nat} (ho : o.op = .fieldAddr 27 x 1) (hx : ρ x = .pointer (some ⟨g, m, none⟩)) : (execOp ρ o).run Tryz.prog w = .ok (.value (.pointer (some ⟨g, m + 1, none⟩))) w := by
  unfold execOp; rw [ho]; simp only [hx]
  go_simp

theorem fa27_2 {x : Operand} {g m : Nat} (ho : o.op = .fieldAddr 27 x 2) (hx : ρ x = .pointer (some ⟨g, m, none⟩)) : (execOp ρ o).run Tryz.prog w = .ok (.value (.pointer (some ⟨g, m + 2, none⟩))) w := by
  unfold execOp; rw [ho]; simp only [hx]
  go_simp

theorem fa27_3 {x : Operand} {g m : Nat} (ho : o.op = .fieldAddr 27 x 3) (hx : ρ x = .pointer (some ⟨g, m, none⟩)) : (execOp ρ o).run Tryz.prog w = .ok (.value (.pointer (some ⟨g, m + 3, none⟩))) w := by
  unfold execOp; rw [ho]; simp only [hx]
  go_simp

theorem fa27_4 {x : Operand} {g m : Nat} (ho : o.op = .fieldAddr 27 x 4) (hx : ρ x = .pointer (some ⟨g, m, none⟩)) : (execOp ρ o).run Tryz.prog w = .ok (.value (.pointer (some ⟨g, m + 4, none⟩))) w := by
  unfold execOp; rw [ho]; simp only [hx]
  go_simp

theorem fa65_0 {x : Operand} {g m : Nat} (ho : o.op = .fieldAddr 65 x 0) (hx : ρ x = .pointer (some ⟨g, m, none⟩)) : (execOp ρ o).run Tryz.prog w = .ok (.value (.pointer (some ⟨g, m, none⟩))) w := by
  unfold execOp; rw [ho]; simp only [hx]
  go_simp

theorem fa65_1 {x : Operand} {g m : Nat} (ho : o.op = .fieldAddr 65 x 1) (hx : ρ x = .pointer (some ⟨g, m, none⟩)) : (execOp ρ o).run Tryz.prog w = .ok (.value (.pointer (some ⟨g, m + 1, none⟩))) w := by
  unfold execOp; rw [ho]; simp only [hx]
  go_simp

theorem fa65_2 {x : Operand} {g m : Nat} (ho : o.op = .fieldAddr 65 x 2) (hx : ρ x = .pointer (some ⟨g, m, none⟩)) : (execOp ρ o).run Tryz.prog w = .ok (.value (.pointer (some ⟨g, m + 2, none⟩))) w := by
  unfold execOp; rw [ho]; simp only [hx]
  go_simp

theorem fa65_3 {x : Operand} {g m : Nat} (ho : o.op = .fieldAddr 65 x 3) (hx : ρ x = .pointer (some ⟨g, m, none⟩)) : (execOp ρ o).run Tryz.prog w = .ok (.value (.pointer (some ⟨g, m + 3, none⟩))) w := by
  unfold execOp; rw [ho]; simp only [hx]
  go_simp

theorem fa65_4 {x : Operand} {g m : Nat} (ho : o.op = .fieldAddr 65 x 4) (hx : ρ x = .pointer (some ⟨g, m, none⟩)) : (execOp ρ o).run Tryz.prog w = .ok (.value (.pointer (some ⟨g, m + 4, none⟩))) w := by
  unfold execOp; rw [ho]; simp only [hx]
  go_simp

theorem fa65_5 {x : Operand} {g m : Nat} (ho : o.op = .fieldAddr 65 x 5) (hx : ρ x = .pointer (some ⟨g, m, none⟩)) : (execOp ρ o).run Tryz.prog w = .ok (.value (.pointer (some ⟨g, m + 5, none⟩))) w := by
  unfold execOp; rw [ho]; simp only [hx]
  go_simp

theorem fa65_6 {x : Operand} {g m : Nat} (ho : o.op = .fieldAddr 65 x 6) (hx : ρ x = .pointer (some ⟨g, m, none⟩)) : (execOp ρ o).run Tryz.prog w = .ok (.value (.pointer (some ⟨g, m + 6, none⟩))) w := by
  unfold execOp; rw [ho]; simp only [hx]
  go_simp

theorem fa60_0 {x : Operand} {g m : Nat} (ho : o.op = .fieldAddr 60 x 0) (hx : ρ x = .pointer (some ⟨g, m, none⟩)) : (execOp ρ o).run Tryz.prog w = .ok (.value (.pointer (some ⟨g, m, none⟩))) w := by
  unfold execOp; rw [ho]; simp only [hx]
  go_simp

theorem fa60_1 {x : Operand} {g m : Nat} (ho : o.op = .fieldAddr 60 x 1) (hx : ρ x = .pointer (some ⟨g, m, none⟩)) : (execOp ρ o).run Tryz.prog w = .ok (.value (.pointer (some ⟨g, m + 1, none⟩))) w := by
  unfold execOp; rw [ho]; simp only [hx]
  go_simp

theorem fa60_2 {x : Operand} {g m : Nat} (ho : o.op = .fieldAddr 60 x 2) (hx : ρ x = .pointer (some ⟨g, m, none⟩)) : (execOp ρ o).run Tryz.prog w = .ok (.value (.pointer (some ⟨g, m + 5, none⟩))) w := by
  unfold execOp; rw [ho]; simp only [hx]
  go_simp

theorem fa85_0 {x : Operand} {g m : Nat} (ho : o.op = .fieldAddr 85 x 0) (hx : ρ x = .pointer (some ⟨g, m, none⟩)) : (execOp ρ o).run Tryz.prog w = .ok (.value (.pointer (some ⟨g, m, none⟩))) w := by
  unfold execOp; rw [ho]; simp only [hx]
  go_simp

theorem fa85_1 {x : Operand} {g m : Nat} (ho : o.op = .fieldAddr 85 x 1) (hx : ρ x = .pointer (some ⟨g, m, none⟩)) : (execOp ρ o).run Tryz.prog w = .ok (.value (.pointer (some ⟨g, m + 1, none⟩))) w := by
  unfold execOp; rw [ho]; simp only [hx]
  go_simp

theorem fa85_2 {x : Operand} {g m : Nat} (ho : o.op = .fieldAddr 85 x 2) (hx : ρ x = .pointer (some ⟨g, m, none⟩)) : (execOp ρ o).run Tryz.prog w = .ok (.value (.pointer (some ⟨g, m + 2, none⟩))) w := by
  unfold execOp; rw [ho]; simp only [hx]
  go_simp

theorem fa87_0 {x : Operand} {g m : Nat} (ho : o.op = .fieldAddr 87 x 0) (hx : ρ x = .pointer (some ⟨g, m, none⟩)) : (execOp ρ o).run Tryz.prog w = .ok (.value (.pointer (some ⟨g, m, none⟩))) w := by
  unfold execOp; rw [ho]; simp only [hx]
  go_simp

theorem fa87_1 {x : Operand} {g m : Nat} (ho : o.op = .fieldAddr 87 x 1) (hx : ρ x = .pointer (some ⟨g, m, none⟩)) : (execOp ρ o).run Tryz.prog w = .ok (.value (.pointer (some ⟨g, m + 1, none⟩))) w := by
  unfold execOp; rw [ho]; simp only [hx]
  go_simp

theorem fa70_0 {x : Operand} {g m : Nat} (ho : o.op = .fieldAddr 70 x 0) (hx : ρ x = .pointer (some ⟨g, m, none⟩)) : (execOp ρ o).run Tryz.prog w = .ok (.value (.pointer (some ⟨g, m, none⟩))) w := by
  unfold execOp; rw [ho]; simp only [hx]
  go_simp

theorem fa70_1 {x : Operand} {g m : Nat} (ho : o.op = .fieldAddr 70 x 1) (hx : ρ x = .pointer (some ⟨g, m, none⟩)) : (execOp ρ o).run Tryz.prog w = .ok (.value (.pointer (some ⟨g, m + 1, none⟩))) w := by
  unfold execOp; rw [ho]; simp only [hx]
  go_simp

theorem fa70_2 {x : Operand} {g m : Nat} (ho : o.op = .fieldAddr 70 x 2) (hx : ρ x = .pointer (some ⟨g, m, none⟩)) : (execOp ρ o).run Tryz.prog w = .ok (.value (.pointer (some ⟨g, m + 2, none⟩))) w := by
  unfold execOp; rw [ho]; simp only [hx]
  go_simp

end
end Go.Proofs.YtodnlcbnbkkanaaGreatDoor
end
section
namespace Go.Proofs.YtodnlcbnbkkanaaGreatDoor
open Go Go.RowKit Go.Maps Go.WideMaps Go.Vals Go.Vals

/-- May a name be? -/
def nameB (s : ByteArray) : Bool := decide (1 ≤ s.size) && decide (s.size ≤ 1000)

set_option maxHeartbeats 400000 in
theorem f77_any (s : ByteArray) (w : World) : Calls Tryz.prog 123 #[.string s] w fun e w' => e = .returned (.bool (nameB s)) ∧ Below w.heap.size w w' := by
  unfold nameB
  by_cases h : 1 ≤ s.size
  · have h1 : decide (1 ≤ s.size) = true := by simpa using h
    have i1 : (1 : Int) ≤ (s.size : Int) := by omega
    rw [h1, Bool.true_and]
    by_cases h2 : s.size ≤ 1000
    · have h3 : decide (s.size ≤ 1000) = true := by simpa using h2
      have i2 : (s.size : Int) ≤ 1000 := by omega
      rw [h3]
      go_enter Tryz.func123, Tryz.ntmps123
      go_wp2
      go_ret
      exact ⟨rfl, Below.refl _ _⟩
    · have h3 : decide (s.size ≤ 1000) = false := by simpa using h2
      have i2 : ¬ (s.size : Int) ≤ 1000 := by omega
      rw [h3]
      go_enter Tryz.func123, Tryz.ntmps123
      go_wp2
      go_ret
      exact ⟨rfl, Below.refl _ _⟩
  · have h1 : decide (1 ≤ s.size) = false := by simpa using h
    have i1 : ¬ (1 : Int) ≤ (s.size : Int) := by omega
    rw [h1, Bool.false_and]
    go_enter Tryz.func123, Tryz.ntmps123
    go_wp2
    go_ret
    exact ⟨rfl, Below.refl _ _⟩

/-- What a grammar that came in is bound by. -/
structure FitG (g : GramM) : Prop where
  fit : Fit g
  forb : ∀ f, f ∈ g.forbid → FitF f
  fol : ∀ f, f ∈ g.follow → I64 f.sort

/-- May what is forbidden be? -/
def forbidsB (g : GramM) : Bool := onceA forEq [] g.forbid && g.forbid.all (forbidB g)

set_option maxRecDepth 100000 in
set_option maxHeartbeats 1000000 in
theorem forbidsMay_any (g : GramM) (w : World) (hg : GIn w g) (hf : FitG g) : Calls Tryz.prog 95 #[gramV g] w fun e w' => e = .returned (.bool (forbidsB g)) ∧ Below w.heap.size w w' := by
  have hB1 : Below w.heap.size w (w.alloc (.cells (gramC g) 27)) := (Below.refl _ _).alloc (Nat.le_refl _) _
  have HO := Lib.hid (onceFor_any g.fa g.fc g.forbid _ (hg.forbid.belowN hB1) hf.fit.forbid hf.forb)
  have HA := Lib.hid (fun W (hW : Below (w.alloc (.cells (gramC g) 27)).heap.size (w.alloc (.cells (gramC g) 27)) W) => allFor_any g.fa g.fc g.forbid (forbidB g) 130 #[.pointer (some ⟨w.heap.size, 0, none⟩)] (fun _ _ => by kernel_rfl) W ((hg.forbid.belowN hB1).belowN hW) hf.fit.forbid (fun f hF V hV =>
    f83_any f g w.heap.size V ((hg.below hB1).below (hW.trans (hV.mono hW.size))) hf.fit (hf.forb f hF) ((Blk.new w 27 (gramC g)).below (hW.trans (hV.mono hW.size)) (by simp))))
  have HB := Lib.hid hB1
  have HR : Hid (forbidsB g = (onceA forEq [] g.forbid && g.forbid.all (forbidB g))) := Lib.hid rfl
  have HK := Lib.hid (fun W (hW : Below (w.alloc (.cells (gramC g) 27)).heap.size (w.alloc (.cells (gramC g) 27)) W) => ((Blk.new w 27 (gramC g)).below hW (by simp)).gram)
  clear hg hf hB1
  generalize g.forbid.all (forbidB g) = r at *
  generalize onceA forEq [] g.forbid = o at *
  generalize forbidsB g = q at *
  unfold gramV gramC at *
  cases o with
  | false =>
    have HR2 : Hid (q = false) := Lib.hid (by rw [HR.out]; rfl)
    clear HR HA HK
    go_enter Tryz.func95, Tryz.ntmps95
    go_wp2_with fail
    refine HO.out.mono ?_
    rintro e w3 ⟨rfl, hB3⟩
    have HB3 := Lib.hid (HB.out.trans (hB3.mono HB.out.size))
    clear hB3
    go_wp2
    go_ret
    exact ⟨by rw [HR2.out]; try rfl, HB3.out⟩
  | true =>
    have HR2 : Hid (q = r) := Lib.hid (by rw [HR.out]; rfl)
    clear HR
    go_enter Tryz.func95, Tryz.ntmps95
    go_wp2_with fail
    refine HO.out.mono ?_
    rintro e w3 ⟨rfl, hB3⟩
    have HA3 := Lib.hid (HA.out _ hB3)
    obtain ⟨_, _, _, c3, _⟩ := HK.out _ hB3
    have HB3 := Lib.hid (HB.out.trans (hB3.mono HB.out.size))
    have hlt : w.heap.size < w3.heap.size := by have := hB3.size; simp at this; omega
    clear hB3 HA HK HO
    go_wp2_with fail
    refine HA3.out.mono ?_
    rintro e w4 ⟨rfl, hB4⟩
    have HB4 := Lib.hid (HB3.out.trans (hB4.mono HB3.out.size))
    clear hB4 c3
    go_wp2
    go_ret
    exact ⟨by rw [HR2.out]; try rfl, HB4.out⟩

/-- May the sorts' names be? -/
def sortsB' (g : GramM) : Bool := decide (1 ≤ g.sorts.length) && (decide (g.sorts.length ≤ 1000) && (g.sorts.all nameB && onceA strEq [] g.sorts))

set_option maxRecDepth 100000 in
set_option maxHeartbeats 2000000 in
theorem sortsMay_any (g : GramM) (w : World) (hg : GIn w g) (hf : Fit g) : Calls Tryz.prog 92 #[gramV g] w fun e w' => e = .returned (.bool (sortsB' g)) ∧ Below w.heap.size w w' := by
  have hB1 : Below w.heap.size w (w.alloc (.cells (gramC g) 27)) := (Below.refl _ _).alloc (Nat.le_refl _) _
  have HA := Lib.hid (fun W (hW : Below w.heap.size w W) => allStr_any g.sa g.sc g.sorts nameB 123 #[] (fun _ _ => by kernel_rfl) W (hg.sorts.belowN hW) hf.sorts (fun s hs V hV => f77_any s V))
  have HN := Lib.hid (fun W (hW : Below w.heap.size w W) => byName_any g.sa g.sc g.sorts hf.sorts hf.names W (hg.sorts.belowN hW))
  have HO : Hid (decide (size (nm 0 g.sorts) = g.sorts.length) = onceA strEq [] g.sorts) := Lib.hid (nm_size g.sorts hf.names 0).2
  have HB := Lib.hid hB1
  have HR : Hid (sortsB' g = (decide (1 ≤ g.sorts.length) && (decide (g.sorts.length ≤ 1000) && (g.sorts.all nameB && onceA strEq [] g.sorts)))) := Lib.hid rfl
  have HK := Lib.hid (fun W (hW : Below (w.alloc (.cells (gramC g) 27)).heap.size (w.alloc (.cells (gramC g) 27)) W) => ((Blk.new w 27 (gramC g)).below hW (by simp)).gram)
  clear hg hf hB1
  generalize g.sorts.all nameB = ra at *
  generalize onceA strEq [] g.sorts = o at *
  generalize sortsB' g = q at *
  unfold gramV gramC at *
  generalize nm 0 g.sorts = D at *
  generalize g.sorts.length = n at *
  obtain ⟨W0, hW0⟩ : ∃ W0, W0 = w.alloc (.cells #[.slice g.sa n g.sc, .slice g.pa g.prods.length g.pc, .int .i64 g.start, .slice g.fa g.forbid.length g.fc, .slice g.wa g.follow.length g.wc] 27) := ⟨_, rfl⟩
  have hN : ∀ W : World, Below W.heap.size W W := fun W => Below.refl _ W
  by_cases h1 : 1 ≤ n
  · have i1 : decide ((1 : Int) ≤ ((n : Nat) : Int)) = true := by simp; omega
    by_cases h2 : n ≤ 1000
    · have i2 : decide (((n : Nat) : Int) ≤ 1000) = true := by simp; omega
      have HR2 : Hid (q = (ra && o)) := Lib.hid (by rw [HR.out]; simp [h1, h2])
      clear HR h1 h2
      cases ra with
      | false =>
        have HR3 : Hid (q = false) := Lib.hid (by rw [HR2.out]; rfl)
        clear HR2 HN HO
        go_enter Tryz.func92, Tryz.ntmps92
        go_wp2_with fail
        rw [← hW0] at HB HK ⊢
        clear hW0
        refine wp_region_vals0 (N := fun W W' => Below W.heap.size W W') (S := fun W => Below W0.heap.size W0 W)
          [.pointer (some ⟨w.heap.size, 0, none⟩), .slice g.sa n g.sc, .int .i64 (n : Nat), .bool true, .bool true, .pointer (some ⟨w.heap.size, 0, none⟩), .slice g.sa n g.sc, .int .i64 (n : Nat), .bool true, .bool true, .bool true, .pointer (some ⟨w.heap.size, 0, none⟩), .slice g.sa n g.sc, .bool false, .bool false, .bool false, undef, undef, undef, undef, undef, undef, undef, undef, .bool false, .bool false]
          #[.agg #[.slice g.sa n g.sc, .slice g.pa g.prods.length g.pc, .int .i64 g.start, .slice g.fa g.forbid.length g.fc, .slice g.wa g.follow.length g.wc], .pointer (some ⟨w.heap.size, 0, none⟩), .bool false, .pointer (some ⟨w.heap.size, 0, none⟩), .slice g.sa n g.sc, .int .i64 (n : Nat), .bool true, .bool true, .pointer (some ⟨w.heap.size, 0, none⟩), .slice g.sa n g.sc, .int .i64 (n : Nat), .bool true, .bool true, .bool true, .pointer (some ⟨w.heap.size, 0, none⟩), .slice g.sa n g.sc, .bool false, .bool false, .bool false, undef, undef, undef, undef, undef, undef, undef, undef, .bool false]
          rfl (by kernel_rfl) (by kernel_rfl) (by kernel_rfl) hN (Below.refl _ W0).drew (fun W W' h hB => h.trans (hB.mono h.size)) ?_ ?_
        · refine Each.val 3 (.pointer (some ⟨w.heap.size, 0, none⟩)) (by kernel_rfl) (by kernel_rfl) (by kernel_rfl) hN (fun W hS _ => fa27_0 rfl (by kernel_rfl)) ?_
          refine Each.val 4 (.slice g.sa n g.sc) (by kernel_rfl) (by kernel_rfl) (by kernel_rfl) hN (fun W hS _ => ld22 rfl (by kernel_rfl) ((HK.out W hS).1)) ?_
          refine Each.val 5 (.int .i64 (n : Nat)) (by kernel_rfl) (by kernel_rfl) (by kernel_rfl) hN (fun W hS _ => len22 (a := g.sa) (c := g.sc) rfl (by kernel_rfl)) ?_
          refine Each.val 6 (.bool true) (by kernel_rfl) (by kernel_rfl) (by kernel_rfl) hN (fun W hS _ => ex_leq rfl (by kernel_rfl) (by kernel_rfl) (i1)) ?_
          refine Each.val 7 (.bool true) (by kernel_rfl) (by kernel_rfl) (by kernel_rfl) hN (fun _ _ _ => by kernel_rfl) ?_
          refine Each.val 8 (.pointer (some ⟨w.heap.size, 0, none⟩)) (by kernel_rfl) (by kernel_rfl) (by kernel_rfl) hN (fun W hS _ => fa27_0 rfl (by kernel_rfl)) ?_
          refine Each.val 9 (.slice g.sa n g.sc) (by kernel_rfl) (by kernel_rfl) (by kernel_rfl) hN (fun W hS _ => ld22 rfl (by kernel_rfl) ((HK.out W hS).1)) ?_
          refine Each.val 10 (.int .i64 (n : Nat)) (by kernel_rfl) (by kernel_rfl) (by kernel_rfl) hN (fun W hS _ => len22 (a := g.sa) (c := g.sc) rfl (by kernel_rfl)) ?_
          refine Each.val 11 (.bool true) (by kernel_rfl) (by kernel_rfl) (by kernel_rfl) hN (fun W hS _ => ex_leq rfl (by kernel_rfl) (by kernel_rfl) (i2)) ?_
          refine Each.val 12 (.bool true) (by kernel_rfl) (by kernel_rfl) (by kernel_rfl) hN (fun _ _ _ => by kernel_rfl) ?_
          refine Each.val 13 (.bool true) (by kernel_rfl) (by kernel_rfl) (by kernel_rfl) hN (fun _ _ _ => by kernel_rfl) ?_
          refine Each.val 14 (.pointer (some ⟨w.heap.size, 0, none⟩)) (by kernel_rfl) (by kernel_rfl) (by kernel_rfl) hN (fun W hS _ => fa27_0 rfl (by kernel_rfl)) ?_
          refine Each.val 15 (.slice g.sa n g.sc) (by kernel_rfl) (by kernel_rfl) (by kernel_rfl) hN (fun W hS _ => ld22 rfl (by kernel_rfl) ((HK.out W hS).1)) ?_
          refine Each.call 16 (.bool false) 122 #[.slice g.sa n g.sc, .func (.func 123) #[] #[]] (by kernel_rfl) (by kernel_rfl) (by kernel_rfl) (fun _ _ => by kernel_rfl) (fun W hS => HA.out W (HB.out.trans (hS.mono HB.out.size))) ?_
          refine Each.val 17 (.bool false) (by kernel_rfl) (by kernel_rfl) (by kernel_rfl) hN (fun _ _ _ => by kernel_rfl) ?_
          refine Each.val 18 (.bool false) (by kernel_rfl) (by kernel_rfl) (by kernel_rfl) hN (fun _ _ _ => by kernel_rfl) ?_
          refine Each.off 19 (by kernel_rfl) (by kernel_rfl) (by kernel_rfl) ?_
          refine Each.off 20 (by kernel_rfl) (by kernel_rfl) (by kernel_rfl) ?_
          refine Each.off 21 (by kernel_rfl) (by kernel_rfl) (by kernel_rfl) ?_
          refine Each.off 22 (by kernel_rfl) (by kernel_rfl) (by kernel_rfl) ?_
          refine Each.off 23 (by kernel_rfl) (by kernel_rfl) (by kernel_rfl) ?_
          refine Each.off 24 (by kernel_rfl) (by kernel_rfl) (by kernel_rfl) ?_
          refine Each.off 25 (by kernel_rfl) (by kernel_rfl) (by kernel_rfl) ?_
          refine Each.off 26 (by kernel_rfl) (by kernel_rfl) (by kernel_rfl) ?_
          refine Each.val 27 (.bool false) (by kernel_rfl) (by kernel_rfl) (by kernel_rfl) hN (fun _ _ _ => by kernel_rfl) ?_
          refine Each.val 2 (.bool false) (by kernel_rfl) (by kernel_rfl) (by kernel_rfl) hN (fun _ _ _ => by kernel_rfl) ?_
          exact trivial
        · intro w' hS
          have HB3 := Lib.hid (HB.out.trans (hS.mono HB.out.size))
          clear hS hN
          go_wp2
          go_ret
          exact ⟨by rw [HR3.out]; try rfl, HB3.out⟩
      | true =>
        have HR3 : Hid (q = o) := Lib.hid (by rw [HR2.out]; rfl)
        clear HR2 hN
        go_enter Tryz.func92, Tryz.ntmps92
        go_wp2_with fail
        rw [← hW0] at HB HK ⊢
        have c0 := (HK.out W0 (Below.refl _ _)).1
        have hl0 : w.heap.size < W0.heap.size := by rw [hW0]; simp
        clear hW0
        go_region_held (fun W => W.cell? ⟨w.heap.size, 0, none⟩ = some (.slice g.sa n g.sc)) (go_keep)
          (first
            | (go_at_call 122; (with_reducible refine (HA.out _ HB.out.drew).mono ?_); rintro e w3 ⟨rfl, hB3⟩; have hB3' : Below W0.heap.size W0 w3 := ⟨hB3.os, hB3.tape, hB3.output, hB3.size, hB3.block⟩; have e0 := (HK.out w3 hB3').1; have HB3 := Lib.hid hB3'; clear hB3 hB3')
            | (go_at_call 124; (with_reducible refine (HN.out _ (HB.out.trans (HB3.out.mono HB.out.size))).mono ?_); rintro e w4 ⟨rfl, hown, hB4⟩; have hB4' := HB3.out.trans (hB4.mono HB3.out.size); have e1 := (HK.out w4 hB4').1; have hlen := fun ty => hown.len Tryz.underlying169 ty; have HB4 := Lib.hid (HB.out.trans (hB4'.mono HB.out.size)); clear hB4 hB4' hown))
        go_wp2
        go_ret
        exact ⟨by
          rw [HR3.out, ← HO.out]
          show Ending.returned (.bool _) = Ending.returned (.bool _)
          rw [Ending.returned.injEq, Value.bool.injEq, Bool.eq_iff_iff]
          simp
          exact Int.ofNat_inj, HB4.out⟩
    · have i2 : decide (((n : Nat) : Int) ≤ 1000) = false := by simp; omega
      have HR3 : Hid (q = false) := Lib.hid (by rw [HR.out]; simp [h1, h2])
      clear HR h1 h2 HN HO HA
      go_enter Tryz.func92, Tryz.ntmps92
      go_wp2_with fail
      rw [← hW0] at HB HK ⊢
      clear hW0
      refine wp_region_vals0 (N := fun W W' => Below W.heap.size W W') (S := fun W => Below W0.heap.size W0 W)
        [.pointer (some ⟨w.heap.size, 0, none⟩), .slice g.sa n g.sc, .int .i64 (n : Nat), .bool true, .bool true, .pointer (some ⟨w.heap.size, 0, none⟩), .slice g.sa n g.sc, .int .i64 (n : Nat), .bool false, .bool false, .bool false, undef, undef, undef, .bool false, .bool false, undef, undef, undef, undef, undef, undef, undef, undef, .bool false, .bool false]
        #[.agg #[.slice g.sa n g.sc, .slice g.pa g.prods.length g.pc, .int .i64 g.start, .slice g.fa g.forbid.length g.fc, .slice g.wa g.follow.length g.wc], .pointer (some ⟨w.heap.size, 0, none⟩), .bool false, .pointer (some ⟨w.heap.size, 0, none⟩), .slice g.sa n g.sc, .int .i64 (n : Nat), .bool true, .bool true, .pointer (some ⟨w.heap.size, 0, none⟩), .slice g.sa n g.sc, .int .i64 (n : Nat), .bool false, .bool false, .bool false, undef, undef, undef, .bool false, .bool false, undef, undef, undef, undef, undef, undef, undef, undef, .bool false]
        rfl (by kernel_rfl) (by kernel_rfl) (by kernel_rfl) hN (Below.refl _ W0).drew (fun W W' h hB => h.trans (hB.mono h.size)) ?_ ?_
      · refine Each.val 3 (.pointer (some ⟨w.heap.size, 0, none⟩)) (by kernel_rfl) (by kernel_rfl) (by kernel_rfl) hN (fun W hS _ => fa27_0 rfl (by kernel_rfl)) ?_
        refine Each.val 4 (.slice g.sa n g.sc) (by kernel_rfl) (by kernel_rfl) (by kernel_rfl) hN (fun W hS _ => ld22 rfl (by kernel_rfl) ((HK.out W hS).1)) ?_
        refine Each.val 5 (.int .i64 (n : Nat)) (by kernel_rfl) (by kernel_rfl) (by kernel_rfl) hN (fun W hS _ => len22 (a := g.sa) (c := g.sc) rfl (by kernel_rfl)) ?_
        refine Each.val 6 (.bool true) (by kernel_rfl) (by kernel_rfl) (by kernel_rfl) hN (fun W hS _ => ex_leq rfl (by kernel_rfl) (by kernel_rfl) (i1)) ?_
        refine Each.val 7 (.bool true) (by kernel_rfl) (by kernel_rfl) (by kernel_rfl) hN (fun _ _ _ => by kernel_rfl) ?_
        refine Each.val 8 (.pointer (some ⟨w.heap.size, 0, none⟩)) (by kernel_rfl) (by kernel_rfl) (by kernel_rfl) hN (fun W hS _ => fa27_0 rfl (by kernel_rfl)) ?_
        refine Each.val 9 (.slice g.sa n g.sc) (by kernel_rfl) (by kernel_rfl) (by kernel_rfl) hN (fun W hS _ => ld22 rfl (by kernel_rfl) ((HK.out W hS).1)) ?_
        refine Each.val 10 (.int .i64 (n : Nat)) (by kernel_rfl) (by kernel_rfl) (by kernel_rfl) hN (fun W hS _ => len22 (a := g.sa) (c := g.sc) rfl (by kernel_rfl)) ?_
        refine Each.val 11 (.bool false) (by kernel_rfl) (by kernel_rfl) (by kernel_rfl) hN (fun W hS _ => ex_leq rfl (by kernel_rfl) (by kernel_rfl) (i2)) ?_
        refine Each.val 12 (.bool false) (by kernel_rfl) (by kernel_rfl) (by kernel_rfl) hN (fun _ _ _ => by kernel_rfl) ?_
        refine Each.val 13 (.bool false) (by kernel_rfl) (by kernel_rfl) (by kernel_rfl) hN (fun _ _ _ => by kernel_rfl) ?_
        refine Each.off 14 (by kernel_rfl) (by kernel_rfl) (by kernel_rfl) ?_
        refine Each.off 15 (by kernel_rfl) (by kernel_rfl) (by kernel_rfl) ?_
        refine Each.off 16 (by kernel_rfl) (by kernel_rfl) (by kernel_rfl) ?_
        refine Each.val 17 (.bool false) (by kernel_rfl) (by kernel_rfl) (by kernel_rfl) hN (fun _ _ _ => by kernel_rfl) ?_
        refine Each.val 18 (.bool false) (by kernel_rfl) (by kernel_rfl) (by kernel_rfl) hN (fun _ _ _ => by kernel_rfl) ?_
        refine Each.off 19 (by kernel_rfl) (by kernel_rfl) (by kernel_rfl) ?_
        refine Each.off 20 (by kernel_rfl) (by kernel_rfl) (by kernel_rfl) ?_
        refine Each.off 21 (by kernel_rfl) (by kernel_rfl) (by kernel_rfl) ?_
        refine Each.off 22 (by kernel_rfl) (by kernel_rfl) (by kernel_rfl) ?_
        refine Each.off 23 (by kernel_rfl) (by kernel_rfl) (by kernel_rfl) ?_
        refine Each.off 24 (by kernel_rfl) (by kernel_rfl) (by kernel_rfl) ?_
        refine Each.off 25 (by kernel_rfl) (by kernel_rfl) (by kernel_rfl) ?_
        refine Each.off 26 (by kernel_rfl) (by kernel_rfl) (by kernel_rfl) ?_
        refine Each.val 27 (.bool false) (by kernel_rfl) (by kernel_rfl) (by kernel_rfl) hN (fun _ _ _ => by kernel_rfl) ?_
        refine Each.val 2 (.bool false) (by kernel_rfl) (by kernel_rfl) (by kernel_rfl) hN (fun _ _ _ => by kernel_rfl) ?_
        exact trivial
      · intro w' hS
        have HB3 := Lib.hid (HB.out.trans (hS.mono HB.out.size))
        clear hS hN
        go_wp2
        go_ret
        exact ⟨by rw [HR3.out]; try rfl, HB3.out⟩
  · have i1 : decide ((1 : Int) ≤ ((n : Nat) : Int)) = false := by simp; omega
    have HR3 : Hid (q = false) := Lib.hid (by rw [HR.out]; simp [h1])
    clear HR h1 HN HO HA
    go_enter Tryz.func92, Tryz.ntmps92
    go_wp2_with fail
    rw [← hW0] at HB HK ⊢
    clear hW0
    refine wp_region_vals0 (N := fun W W' => Below W.heap.size W W') (S := fun W => Below W0.heap.size W0 W)
      [.pointer (some ⟨w.heap.size, 0, none⟩), .slice g.sa n g.sc, .int .i64 (n : Nat), .bool false, .bool false, undef, undef, undef, undef, .bool false, .bool false, undef, undef, undef, .bool false, .bool false, undef, undef, undef, undef, undef, undef, undef, undef, .bool false, .bool false]
      #[.agg #[.slice g.sa n g.sc, .slice g.pa g.prods.length g.pc, .int .i64 g.start, .slice g.fa g.forbid.length g.fc, .slice g.wa g.follow.length g.wc], .pointer (some ⟨w.heap.size, 0, none⟩), .bool false, .pointer (some ⟨w.heap.size, 0, none⟩), .slice g.sa n g.sc, .int .i64 (n : Nat), .bool false, .bool false, undef, undef, undef, undef, .bool false, .bool false, undef, undef, undef, .bool false, .bool false, undef, undef, undef, undef, undef, undef, undef, undef, .bool false]
      rfl (by kernel_rfl) (by kernel_rfl) (by kernel_rfl) hN (Below.refl _ W0).drew (fun W W' h hB => h.trans (hB.mono h.size)) ?_ ?_
    · refine Each.val 3 (.pointer (some ⟨w.heap.size, 0, none⟩)) (by kernel_rfl) (by kernel_rfl) (by kernel_rfl) hN (fun W hS _ => fa27_0 rfl (by kernel_rfl)) ?_
      refine Each.val 4 (.slice g.sa n g.sc) (by kernel_rfl) (by kernel_rfl) (by kernel_rfl) hN (fun W hS _ => ld22 rfl (by kernel_rfl) ((HK.out W hS).1)) ?_
      refine Each.val 5 (.int .i64 (n : Nat)) (by kernel_rfl) (by kernel_rfl) (by kernel_rfl) hN (fun W hS _ => len22 (a := g.sa) (c := g.sc) rfl (by kernel_rfl)) ?_
      refine Each.val 6 (.bool false) (by kernel_rfl) (by kernel_rfl) (by kernel_rfl) hN (fun W hS _ => ex_leq rfl (by kernel_rfl) (by kernel_rfl) (i1)) ?_
      refine Each.val 7 (.bool false) (by kernel_rfl) (by kernel_rfl) (by kernel_rfl) hN (fun _ _ _ => by kernel_rfl) ?_
      refine Each.off 8 (by kernel_rfl) (by kernel_rfl) (by kernel_rfl) ?_
      refine Each.off 9 (by kernel_rfl) (by kernel_rfl) (by kernel_rfl) ?_
      refine Each.off 10 (by kernel_rfl) (by kernel_rfl) (by kernel_rfl) ?_
      refine Each.off 11 (by kernel_rfl) (by kernel_rfl) (by kernel_rfl) ?_
      refine Each.val 12 (.bool false) (by kernel_rfl) (by kernel_rfl) (by kernel_rfl) hN (fun _ _ _ => by kernel_rfl) ?_
      refine Each.val 13 (.bool false) (by kernel_rfl) (by kernel_rfl) (by kernel_rfl) hN (fun _ _ _ => by kernel_rfl) ?_
      refine Each.off 14 (by kernel_rfl) (by kernel_rfl) (by kernel_rfl) ?_
      refine Each.off 15 (by kernel_rfl) (by kernel_rfl) (by kernel_rfl) ?_
      refine Each.off 16 (by kernel_rfl) (by kernel_rfl) (by kernel_rfl) ?_
      refine Each.val 17 (.bool false) (by kernel_rfl) (by kernel_rfl) (by kernel_rfl) hN (fun _ _ _ => by kernel_rfl) ?_
      refine Each.val 18 (.bool false) (by kernel_rfl) (by kernel_rfl) (by kernel_rfl) hN (fun _ _ _ => by kernel_rfl) ?_
      refine Each.off 19 (by kernel_rfl) (by kernel_rfl) (by kernel_rfl) ?_
      refine Each.off 20 (by kernel_rfl) (by kernel_rfl) (by kernel_rfl) ?_
      refine Each.off 21 (by kernel_rfl) (by kernel_rfl) (by kernel_rfl) ?_
      refine Each.off 22 (by kernel_rfl) (by kernel_rfl) (by kernel_rfl) ?_
      refine Each.off 23 (by kernel_rfl) (by kernel_rfl) (by kernel_rfl) ?_
      refine Each.off 24 (by kernel_rfl) (by kernel_rfl) (by kernel_rfl) ?_
      refine Each.off 25 (by kernel_rfl) (by kernel_rfl) (by kernel_rfl) ?_
      refine Each.off 26 (by kernel_rfl) (by kernel_rfl) (by kernel_rfl) ?_
      refine Each.val 27 (.bool false) (by kernel_rfl) (by kernel_rfl) (by kernel_rfl) hN (fun _ _ _ => by kernel_rfl) ?_
      refine Each.val 2 (.bool false) (by kernel_rfl) (by kernel_rfl) (by kernel_rfl) hN (fun _ _ _ => by kernel_rfl) ?_
      exact trivial
    · intro w' hS
      have HB3 := Lib.hid (HB.out.trans (hS.mono HB.out.size))
      clear hS hN
      go_wp2
      go_ret
      exact ⟨by rw [HR3.out]; try rfl, HB3.out⟩
end Go.Proofs.YtodnlcbnbkkanaaGreatDoor
end
section
namespace Go.Proofs.YtodnlcbnbkkanaaGreatDoor
open Go Go.RowKit Go.Maps Go.WideMaps

theorem Tryz.info3 : (Tryz.prog.info? 3).map (fun i => (i.zero, i.size, i.bytes)) = some (some (.int .i64 0), 1, 8) := by kernel_rfl

/-- May one be that follows? -/
def folB (n : Int) (f : FolM) : Bool := numB f.sort n && !(f.not == 0#256)
def followsB (g : GramM) : Bool := g.follow.all (folB g.sorts.length) && onceA (fun a b => a == b) [] (g.follow.map (·.sort))
theorem all_false {α : Type} (p : α → Bool) (l : List α) (i : Nat) (x : α) (hx : l[i]? = some x) (h : p x = false) : l.all p = false := by
  rw [List.all_eq_false]
  exact ⟨x, List.mem_of_getElem? hx, by rw [h]; simp⟩

set_option maxRecDepth 100000 in
set_option maxHeartbeats 2000000 in
theorem followsMay_any (g : GramM) (w : World) (hg : GIn w g) (hf : FitG g) : Calls Tryz.prog 96 #[gramV g] w fun e w' => e = .returned (.bool (followsB g)) ∧ Below w.heap.size w w' := by
  have HL := Lib.hid hg.follow
  have HF := Lib.hid hf.fol
  have hn := hf.fit.follow
  have HB0 : Hid (Below w.heap.size w (w.alloc (.cells (gramC g) 27))) := Lib.hid ((Below.refl _ _).alloc (Nat.le_refl _) _)
  have HK0 : Hid (Blk (w.alloc (.cells (gramC g) 27)) w.heap.size 27 (gramC g)) := Lib.hid (Blk.new w 27 (gramC g))
  have HN := fun x w' => Lib.hid (num_any x g.sorts.length w')
  obtain ⟨i0, hi, hz0, hz1, hz2⟩ := info_parts Tryz.info3
  clear hg hf
  unfold gramV
  obtain ⟨n, hln⟩ : ∃ n, n = g.follow.length := ⟨_, rfl⟩
  have HLn := Lib.hid hln
  rw [← hln] at hn
  clear hln
  unfold gramC at *
  rw [← HLn.out] at HB0 HK0 ⊢
  go_enter Tryz.func96, Tryz.ntmps96
  go_wp2
  go_loopw [3, 9] (fun v i wr => ∃ (k : Nat), i = .int .i64 k ∧ k ≤ n ∧ Hid (∀ f, f ∈ g.follow.take k → folB g.sorts.length f = true) ∧ Hid (wr.ownsRow (w.heap.size + 1) 3 1 v k (cellsL intC ((g.follow.take k).map (·.sort))))
      ∧ Hid (Blk wr w.heap.size 27 #[.slice g.sa g.sorts.length g.sc, .slice g.pa g.prods.length g.pc, .int .i64 g.start, .slice g.fa g.forbid.length g.fc, .slice g.wa n g.wc]) ∧ Hid (Below w.heap.size w wr))
    (fun _ i _ => n - (intOf i).toNat)
  case atStart => exact ⟨0, rfl, Nat.zero_le _, Lib.hid (fun f h => by simp at h), Lib.hid (World.ownsRow_nil _ _ _ _), HK0, HB0⟩
  case round =>
    clear HB0 HK0
    obtain ⟨k, rfl, hk, hA, hO, hK, hB⟩ := hrel
    obtain ⟨g0, _, _, _, _⟩ : _ ∧ _ ∧ _ ∧ _ ∧ _ := ⟨hK.out.cell 0, hK.out.cell 1, hK.out.cell 2, hK.out.cell 3, hK.out.cell 4⟩
    simp only [List.getElem?_toArray, List.getElem?_cons_zero] at g0
    have hlK := hK.out.lt
    by_cases hlt : k < n
    · obtain ⟨f, hf⟩ : ∃ f, g.follow[k]? = some f := ⟨_, List.getElem?_eq_getElem (by rw [← HLn.out]; exact hlt)⟩
      have HX := Lib.hid hf
      have HT := Lib.hid (take_snoc g.follow k f hf)
      obtain ⟨b, off, hwa, hbw, hc, _⟩ := HL.out k f hf
      rw [hwa] at hK ⊢
      have hc := hc.below hB.out hbw
      have hbr := Nat.lt_of_lt_of_le hbw hB.out.size
      obtain ⟨c0, c1, c2, c3, c4⟩ := Fol_at hc
      have n1 : (k : Int) < (n : Int) := by omega
      have HFB : Hid (folB g.sorts.length f = (numB f.sort g.sorts.length && !(f.not == 0#256))) := Lib.hid rfl
      have HNf := fun w' => Lib.hid ((HN f.sort w').out)
      have HE := fun w' => Lib.hid (eq_zero f.not w')
      obtain ⟨fs, fnot⟩ := f
      dsimp only at *
      clear hc hf
      generalize (fnot == 0#256) = r2 at *
      generalize numB fs g.sorts.length = r1 at *
      have hszr := hB.out.size
      cases r1 with
      | false =>
        have HR : Hid (followsB g = false) := Lib.hid (by unfold followsB; rw [all_false _ _ k _ HX.out HFB.out]; rfl)
        clear HFB HE HN
        go_wp2_with (go_at_call 90; (with_reducible refine (HNf _).out.mono ?_); rintro e w3 ⟨rfl, rfl⟩)
        go_ret
        exact ⟨by rw [HR.out]; try rfl, hB.out.alloc hszr _⟩
      | true =>
        cases r2 with
        | true =>
          have HR : Hid (followsB g = false) := Lib.hid (by unfold followsB; rw [all_false _ _ k _ HX.out HFB.out]; rfl)
          have HE' := fun w' => (HE w').out
          clear HFB HN
          go_wp2_with (go_at_call 90; (with_reducible refine (HNf _).out.mono ?_); rintro e w3 ⟨rfl, rfl⟩)
          go_ret
          exact ⟨by rw [HR.out]; try rfl, hB.out.alloc hszr _⟩
        | false =>
          have HE' := fun w' => (HE w').out
          have hA2 : Hid (∀ f, f ∈ g.follow.take (k + 1) → folB g.sorts.length f = true) := Lib.hid (fun f hf => by
            rw [HT.out] at hf
            rcases List.mem_append.1 hf with h | h
            · exact hA.out f h
            · simp at h; subst h; exact HFB.out)
          have hO1 := Lib.hid ((hO.out.alloc (.cells #[.int .i64 fs, .int .u64 (wdI fnot 0), .int .u64 (wdI fnot 1), .int .u64 (wdI fnot 2), .int .u64 (wdI fnot 3)] 87)).alloc (.cells #[.int .i64 fs] 48))
          have HCN := cells_new (wr.alloc (.cells #[.int .i64 fs, .int .u64 (wdI fnot 0), .int .u64 (wdI fnot 1), .int .u64 (wdI fnot 2), .int .u64 (wdI fnot 3)] 87)) #[.int .i64 fs] 3
          rw [World.size_alloc] at HCN
          have HCN := Lib.hid HCN
          have hsum : k + 1 ≤ 1048576 := by omega
          have hw1 : w.heap.size + 1 ≤ wr.heap.size := hlK
          clear HFB HN HE
          go_wp2_with (first
            | (go_at_call 90; (with_reducible refine (HNf _).out.mono ?_); rintro e w3 ⟨rfl, rfl⟩)
            | (at_builtin; refine wpList_append_own _ rfl (.tmp 26) (.tmp 29) 48 rfl (w.heap.size + 1) 3 i0 (.int .i64 0) 1 8 Tryz.underlying48 hi hz0 hz1 hz2 rfl (by decide) _ _ _ rfl ((hO.out.alloc _).alloc _) ⟨wr.heap.size + 1, 0, none⟩ 1 1 [.int .i64 fs] rfl rfl HCN.out (by simp [Value.oneCell']) (by unfold maxLen; omega) (by omega) (by simp; omega) ?_; intro v5 w5 hown5 hgrow5 _))
          have hf5 := own_fin ((hO.out.alloc _).alloc _) (((Below.refl (w.heap.size + 1) wr).alloc hw1 _).alloc (by simp; omega) _) hw1 hgrow5
          have hO5 : Hid (w5.ownsRow (w.heap.size + 1) 3 1 v5 (k + 1) (cellsL intC ((g.follow.take (k + 1)).map (·.sort)))) := Lib.hid (by
            rw [HT.out, List.map_append, List.map_cons, List.map_nil, cellsL_snoc]; exact hown5)
          have hK5 := Lib.hid (hK.out.below hf5 (Nat.lt_succ_self _))
          have hB5 := Lib.hid (hB.out.trans (hf5.mono (Nat.le_succ _)))
          clear hf5 hown5 hgrow5 hO hK hB hA g0 c0 c1 c2 c3 c4
          rw [← hwa] at *
          go_wp2
          go_roundw
          case rel => exact ⟨k + 1, by go_num, by omega, hA2, hO5, hK5, hB5⟩
          case measure => simp [intOf]; omega
    · obtain rfl : k = n := by omega
      have HTk : g.follow.take k = g.follow := List.take_of_length_le (by rw [← HLn.out]; exact Nat.le_refl _)
      have hA2 := hA.out
      rw [HTk] at hA2
      have hO2 := hO.out
      rw [HTk] at hO2
      have hall : g.follow.all (folB g.sorts.length) = true := List.all_eq_true.2 hA2
      have hlen : k = (g.follow.map (·.sort)).length := by rw [List.length_map]; exact HLn.out
      have hI : ∀ x, x ∈ g.follow.map (·.sort) → I64 x := fun x hx => by
        obtain ⟨f, hf, rfl⟩ := List.mem_map.1 hx
        exact HF.out f hf
      have HR : Hid (followsB g = onceA (fun a b => a == b) [] (g.follow.map (·.sort))) := Lib.hid (by unfold followsB; rw [hall, Bool.true_and])
      obtain ⟨L, hL⟩ : ∃ L, L = g.follow.map (·.sort) := ⟨_, rfl⟩
      rw [← hL] at hlen hI HR hO2
      rw [hlen] at hO2
      obtain ⟨va, vc, rfl, hrow⟩ := own_row (cs := intC) (G := NoG) (fun _ => rfl) hO2 (fun _ _ => trivial)
      have HO := Lib.hid (onceInt_any va vc L wr hrow (by rw [← hlen]; omega) hI)
      clear hA hA2 hO hO2 hall HTk hrow hL hI
      generalize onceA (fun a b : Int => a == b) [] L = r at *
      clear hlen
      go_wp2_with fail
      with_reducible refine HO.out.mono ?_
      rintro e w3 ⟨rfl, hB3⟩
      have HB3 := Lib.hid (hB.out.trans (hB3.mono hB.out.size))
      clear hB3
      go_wp2
      go_ret
      exact ⟨by rw [HR.out]; try rfl, HB3.out⟩
end Go.Proofs.YtodnlcbnbkkanaaGreatDoor
end
section
namespace Go.Proofs.YtodnlcbnbkkanaaGreatDoor
open Go Go.RowKit Go.Maps Go.WideMaps

theorem zero3 (w : World) : (zeroValue 3).run Tryz.prog w = .ok (.int .i64 0) w := by kernel_rfl
end Go.Proofs.YtodnlcbnbkkanaaGreatDoor
end
section
namespace Go.Proofs.YtodnlcbnbkkanaaGreatDoor
open Go Go.RowKit

theorem conditions_any (w : World) : Calls Tryz.prog 66 #[] w fun e w' => e = .returned (.slice (some ⟨w.heap.size, 0, none⟩) 5 5) ∧ w' = w.alloc (.cells #[.func (.func 92) #[] #[], .func (.func 93) #[] #[], .func (.func 94) #[] #[], .func (.func 95) #[] #[], .func (.func 96) #[] #[]] 28) := by
  go_enter Tryz.func66, Tryz.ntmps66
  go_wp2
  go_ret
  exact ⟨rfl, rfl⟩

/-- The five conditions, from the i-th on. -/
def condB (g : GramM) : Nat → Bool
  | 0 => sortsB' g
  | 1 => startB g
  | 2 => prodsB g
  | 3 => forbidsB g
  | _ => followsB g
/-- May a grammar be? -/
def checkB (g : GramM) : Bool := sortsB' g && (startB g && (prodsB g && (forbidsB g && followsB g)))
def errI (b : Bool) : Int := if b then 0 else 160

theorem cond_any (g : GramM) (hf : FitG g) (i : Nat) (hi : i < 5) (w : World) (hg : GIn w g) : Calls Tryz.prog (92 + i) #[gramV g] w fun e w' => e = .returned (.bool (condB g i)) ∧ Below w.heap.size w w' := by
  have h : i = 0 ∨ i = 1 ∨ i = 2 ∨ i = 3 ∨ i = 4 := by omega
  rcases h with rfl | rfl | rfl | rfl | rfl
  · exact sortsMay_any g w hg hf.fit
  · exact startMay_any g w
  · exact prodsMay_any g w hg hf.fit
  · exact forbidsMay_any g w hg hf
  · exact followsMay_any g w hg hf

set_option maxRecDepth 100000 in
set_option maxHeartbeats 2000000 in
theorem check_any (g : GramM) (w : World) (hg : GIn w g) (hf : FitG g) : Calls Tryz.prog 38 #[gramV g] w fun e w' => e = .returned (.int .i64 (errI (checkB g))) ∧ Below w.heap.size w w' := by
  have HC := Lib.hid (fun i hi W (hW : Below w.heap.size w W) => cond_any g hf i hi W (hg.below hW))
  have HB0 : Hid (Below w.heap.size w ((w.alloc (.cells (gramC g) 27)).alloc (.cells #[.func (.func 92) #[] #[], .func (.func 93) #[] #[], .func (.func 94) #[] #[], .func (.func 95) #[] #[], .func (.func 96) #[] #[]] 28))) := Lib.hid (((Below.refl _ _).alloc (Nat.le_refl _) _).alloc (by simp) _)
  have HK0 : Hid (Blk ((w.alloc (.cells (gramC g) 27)).alloc (.cells #[.func (.func 92) #[] #[], .func (.func 93) #[] #[], .func (.func 94) #[] #[], .func (.func 95) #[] #[], .func (.func 96) #[] #[]] 28)) w.heap.size 27 (gramC g)) := Lib.hid ((Blk.new w 27 (gramC g)).alloc _)
  have HF0 : Hid (Blk ((w.alloc (.cells (gramC g) 27)).alloc (.cells #[.func (.func 92) #[] #[], .func (.func 93) #[] #[], .func (.func 94) #[] #[], .func (.func 95) #[] #[], .func (.func 96) #[] #[]] 28)) (w.heap.size + 1) 28 #[.func (.func 92) #[] #[], .func (.func 93) #[] #[], .func (.func 94) #[] #[], .func (.func 95) #[] #[], .func (.func 96) #[] #[]]) := Lib.hid (by
    have h := Blk.new (w.alloc (.cells (gramC g) 27)) 28 #[.func (.func 92) #[] #[], .func (.func 93) #[] #[], .func (.func 94) #[] #[], .func (.func 95) #[] #[], .func (.func 96) #[] #[]]
    rw [World.size_alloc] at h
    exact h)
  have HR : Hid (checkB g = (condB g 0 && (condB g 1 && (condB g 2 && (condB g 3 && condB g 4))))) := Lib.hid rfl
  clear hg hf
  unfold gramV at *
  generalize checkB g = q at *
  unfold gramC at *
  go_enter Tryz.func38, Tryz.ntmps38
  go_wp2_with (go_at_call 66; refine (conditions_any _).mono ?_; rintro e w' ⟨rfl, rfl⟩)
  go_loopw [7] (fun i wr => ∃ (k : Nat), i = .int .i64 k ∧ k ≤ 5 ∧ Hid (∀ j, j < k → condB g j = true)
      ∧ Hid (Blk wr w.heap.size 27 #[.slice g.sa g.sorts.length g.sc, .slice g.pa g.prods.length g.pc, .int .i64 g.start, .slice g.fa g.forbid.length g.fc, .slice g.wa g.follow.length g.wc])
      ∧ Hid (Blk wr (w.heap.size + 1) 28 #[.func (.func 92) #[] #[], .func (.func 93) #[] #[], .func (.func 94) #[] #[], .func (.func 95) #[] #[], .func (.func 96) #[] #[]]) ∧ Hid (Below w.heap.size w wr))
    (fun i _ => 5 - (intOf i).toNat)
  case atStart => exact ⟨0, rfl, Nat.zero_le _, Lib.hid (fun j hj => by omega), HK0, HF0, HB0⟩
  case round =>
    clear HB0 HK0 HF0
    obtain ⟨k, rfl, hk, hA, hK, hF, hB⟩ := hrel
    have hlK := hK.out.lt
    have hlF := hF.out.lt
    have g0 := hK.out.cell 0
    have g1 := hK.out.cell 1
    have g2 := hK.out.cell 2
    have g3 := hK.out.cell 3
    have g4 := hK.out.cell 4
    simp only [List.getElem?_toArray, List.getElem?_cons_zero, List.getElem?_cons_succ] at g0 g1 g2 g3 g4
    have hcase : k = 0 ∨ k = 1 ∨ k = 2 ∨ k = 3 ∨ k = 4 ∨ k = 5 := by omega
    have key : ∀ r, condB g k = r → (r = false → k < 5 → Hid (q = false)) ∧ (r = true → Hid (∀ j, j < k + 1 → condB g j = true)) := fun r hr => ⟨fun h h5 => Lib.hid (by
        rw [HR.out]
        have h0 : k = 0 ∨ k = 1 ∨ k = 2 ∨ k = 3 ∨ k = 4 := by omega
        rcases h0 with rfl | rfl | rfl | rfl | rfl <;> simp [hr, h]), fun h => Lib.hid (fun j hj => by
        by_cases e : j = k
        · subst e; rw [hr, h]
        · exact hA.out j (by omega))⟩
    have hcN : ∀ (i : Nat), i < 5 → ∀ r, r = condB g i → Hid (Calls Tryz.prog (92 + i) #[.agg #[.slice g.sa g.sorts.length g.sc, .slice g.pa g.prods.length g.pc, .int .i64 g.start, .slice g.fa g.forbid.length g.fc, .slice g.wa g.follow.length g.wc]] wr fun e w' => e = .returned (.bool r) ∧ Below wr.heap.size wr w') := fun i hi r hr => Lib.hid (by rw [hr]; exact HC.out i hi wr hB.out)
    rcases hcase with rfl | rfl | rfl | rfl | rfl | rfl
    · obtain ⟨r, hr⟩ : ∃ r, r = condB g 0 := ⟨_, rfl⟩
      obtain ⟨kf, kt⟩ := key r hr.symm
      have HCk : Hid (Calls Tryz.prog 92 #[.agg #[.slice g.sa g.sorts.length g.sc, .slice g.pa g.prods.length g.pc, .int .i64 g.start, .slice g.fa g.forbid.length g.fc, .slice g.wa g.follow.length g.wc]] wr fun e w' => e = .returned (.bool r) ∧ Below wr.heap.size wr w') := hcN 0 (by omega) r hr
      have f0 := hF.out.cell 0
      simp only [List.getElem?_toArray, List.getElem?_cons_zero, List.getElem?_cons_succ] at f0
      clear key hcN hr hA
      cases r with
      | true =>
        have hA2 := kt rfl
        clear kf kt
        go_wp2_with fail
        with_reducible refine HCk.out.mono ?_
        rintro e w3 ⟨rfl, hB3⟩
        have hK3 := Lib.hid (hK.out.below hB3 hK.out.lt)
        have hF3 := Lib.hid (hF.out.below hB3 hF.out.lt)
        have HB3 := Lib.hid (hB.out.trans (hB3.mono hB.out.size))
        clear hB3 g0 g1 g2 g3 g4 f0 hK hF hB
        go_wp2
        go_roundw
        case rel => exact ⟨1, by go_num, by omega, hA2, hK3, hF3, HB3⟩
        case measure => simp [intOf]
      | false =>
        have HR2 := kf rfl (by omega)
        clear kf kt
        go_wp2_with fail
        with_reducible refine HCk.out.mono ?_
        rintro e w3 ⟨rfl, hB3⟩
        have HB3 := Lib.hid (hB.out.trans (hB3.mono hB.out.size))
        clear hB3 g0 g1 g2 g3 g4 f0 hK hF hB
        go_wp2
        go_ret
        exact ⟨by rw [HR2.out]; try rfl, HB3.out⟩
    · obtain ⟨r, hr⟩ : ∃ r, r = condB g 1 := ⟨_, rfl⟩
      obtain ⟨kf, kt⟩ := key r hr.symm
      have HCk : Hid (Calls Tryz.prog 93 #[.agg #[.slice g.sa g.sorts.length g.sc, .slice g.pa g.prods.length g.pc, .int .i64 g.start, .slice g.fa g.forbid.length g.fc, .slice g.wa g.follow.length g.wc]] wr fun e w' => e = .returned (.bool r) ∧ Below wr.heap.size wr w') := hcN 1 (by omega) r hr
      have f0 := hF.out.cell 1
      simp only [List.getElem?_toArray, List.getElem?_cons_zero, List.getElem?_cons_succ] at f0
      clear key hcN hr hA
      cases r with
      | true =>
        have hA2 := kt rfl
        clear kf kt
        go_wp2_with fail
        with_reducible refine HCk.out.mono ?_
        rintro e w3 ⟨rfl, hB3⟩
        have hK3 := Lib.hid (hK.out.below hB3 hK.out.lt)
        have hF3 := Lib.hid (hF.out.below hB3 hF.out.lt)
        have HB3 := Lib.hid (hB.out.trans (hB3.mono hB.out.size))
        clear hB3 g0 g1 g2 g3 g4 f0 hK hF hB
        go_wp2
        go_roundw
        case rel => exact ⟨2, by go_num, by omega, hA2, hK3, hF3, HB3⟩
        case measure => simp [intOf]
      | false =>
        have HR2 := kf rfl (by omega)
        clear kf kt
        go_wp2_with fail
        with_reducible refine HCk.out.mono ?_
        rintro e w3 ⟨rfl, hB3⟩
        have HB3 := Lib.hid (hB.out.trans (hB3.mono hB.out.size))
        clear hB3 g0 g1 g2 g3 g4 f0 hK hF hB
        go_wp2
        go_ret
        exact ⟨by rw [HR2.out]; try rfl, HB3.out⟩
    · obtain ⟨r, hr⟩ : ∃ r, r = condB g 2 := ⟨_, rfl⟩
      obtain ⟨kf, kt⟩ := key r hr.symm
      have HCk : Hid (Calls Tryz.prog 94 #[.agg #[.slice g.sa g.sorts.length g.sc, .slice g.pa g.prods.length g.pc, .int .i64 g.start, .slice g.fa g.forbid.length g.fc, .slice g.wa g.follow.length g.wc]] wr fun e w' => e = .returned (.bool r) ∧ Below wr.heap.size wr w') := hcN 2 (by omega) r hr
      have f0 := hF.out.cell 2
      simp only [List.getElem?_toArray, List.getElem?_cons_zero, List.getElem?_cons_succ] at f0
      clear key hcN hr hA
      cases r with
      | true =>
        have hA2 := kt rfl
        clear kf kt
        go_wp2_with fail
        with_reducible refine HCk.out.mono ?_
        rintro e w3 ⟨rfl, hB3⟩
        have hK3 := Lib.hid (hK.out.below hB3 hK.out.lt)
        have hF3 := Lib.hid (hF.out.below hB3 hF.out.lt)
        have HB3 := Lib.hid (hB.out.trans (hB3.mono hB.out.size))
        clear hB3 g0 g1 g2 g3 g4 f0 hK hF hB
        go_wp2
        go_roundw
        case rel => exact ⟨3, by go_num, by omega, hA2, hK3, hF3, HB3⟩
        case measure => simp [intOf]
      | false =>
        have HR2 := kf rfl (by omega)
        clear kf kt
        go_wp2_with fail
        with_reducible refine HCk.out.mono ?_
        rintro e w3 ⟨rfl, hB3⟩
        have HB3 := Lib.hid (hB.out.trans (hB3.mono hB.out.size))
        clear hB3 g0 g1 g2 g3 g4 f0 hK hF hB
        go_wp2
        go_ret
        exact ⟨by rw [HR2.out]; try rfl, HB3.out⟩
    · obtain ⟨r, hr⟩ : ∃ r, r = condB g 3 := ⟨_, rfl⟩
      obtain ⟨kf, kt⟩ := key r hr.symm
      have HCk : Hid (Calls Tryz.prog 95 #[.agg #[.slice g.sa g.sorts.length g.sc, .slice g.pa g.prods.length g.pc, .int .i64 g.start, .slice g.fa g.forbid.length g.fc, .slice g.wa g.follow.length g.wc]] wr fun e w' => e = .returned (.bool r) ∧ Below wr.heap.size wr w') := hcN 3 (by omega) r hr
      have f0 := hF.out.cell 3
      simp only [List.getElem?_toArray, List.getElem?_cons_zero, List.getElem?_cons_succ] at f0
      clear key hcN hr hA
      cases r with
      | true =>
        have hA2 := kt rfl
        clear kf kt
        go_wp2_with fail
        with_reducible refine HCk.out.mono ?_
        rintro e w3 ⟨rfl, hB3⟩
        have hK3 := Lib.hid (hK.out.below hB3 hK.out.lt)
        have hF3 := Lib.hid (hF.out.below hB3 hF.out.lt)
        have HB3 := Lib.hid (hB.out.trans (hB3.mono hB.out.size))
        clear hB3 g0 g1 g2 g3 g4 f0 hK hF hB
        go_wp2
        go_roundw
        case rel => exact ⟨4, by go_num, by omega, hA2, hK3, hF3, HB3⟩
        case measure => simp [intOf]
      | false =>
        have HR2 := kf rfl (by omega)
        clear kf kt
        go_wp2_with fail
        with_reducible refine HCk.out.mono ?_
        rintro e w3 ⟨rfl, hB3⟩
        have HB3 := Lib.hid (hB.out.trans (hB3.mono hB.out.size))
        clear hB3 g0 g1 g2 g3 g4 f0 hK hF hB
        go_wp2
        go_ret
        exact ⟨by rw [HR2.out]; try rfl, HB3.out⟩
    · obtain ⟨r, hr⟩ : ∃ r, r = condB g 4 := ⟨_, rfl⟩
      obtain ⟨kf, kt⟩ := key r hr.symm
      have HCk : Hid (Calls Tryz.prog 96 #[.agg #[.slice g.sa g.sorts.length g.sc, .slice g.pa g.prods.length g.pc, .int .i64 g.start, .slice g.fa g.forbid.length g.fc, .slice g.wa g.follow.length g.wc]] wr fun e w' => e = .returned (.bool r) ∧ Below wr.heap.size wr w') := hcN 4 (by omega) r hr
      have f0 := hF.out.cell 4
      simp only [List.getElem?_toArray, List.getElem?_cons_zero, List.getElem?_cons_succ] at f0
      clear key hcN hr hA
      cases r with
      | true =>
        have hA2 := kt rfl
        clear kf kt
        go_wp2_with fail
        with_reducible refine HCk.out.mono ?_
        rintro e w3 ⟨rfl, hB3⟩
        have hK3 := Lib.hid (hK.out.below hB3 hK.out.lt)
        have hF3 := Lib.hid (hF.out.below hB3 hF.out.lt)
        have HB3 := Lib.hid (hB.out.trans (hB3.mono hB.out.size))
        clear hB3 g0 g1 g2 g3 g4 f0 hK hF hB
        go_wp2
        go_roundw
        case rel => exact ⟨5, by go_num, by omega, hA2, hK3, hF3, HB3⟩
        case measure => simp [intOf]
      | false =>
        have HR2 := kf rfl (by omega)
        clear kf kt
        go_wp2_with fail
        with_reducible refine HCk.out.mono ?_
        rintro e w3 ⟨rfl, hB3⟩
        have HB3 := Lib.hid (hB.out.trans (hB3.mono hB.out.size))
        clear hB3 g0 g1 g2 g3 g4 f0 hK hF hB
        go_wp2
        go_ret
        exact ⟨by rw [HR2.out]; try rfl, HB3.out⟩
    · have HR2 : Hid (q = true) := Lib.hid (by rw [HR.out, hA.out 0 (by omega), hA.out 1 (by omega), hA.out 2 (by omega), hA.out 3 (by omega), hA.out 4 (by omega)]; rfl)
      clear key hA hcN
      go_wp2
      go_ret
      exact ⟨by rw [HR2.out]; try rfl, hB.out⟩
end Go.Proofs.YtodnlcbnbkkanaaGreatDoor
end
section
namespace Go.Proofs.YtodnlcbnbkkanaaGreatDoor
open Go Go.RowKit

/-- What a grammar that may be is. -/
structure MayB (g : GramM) : Prop where
  sorts1 : 1 ≤ g.sorts.length
  sorts2 : g.sorts.length ≤ 1000
  prods : g.prods.length ≤ 1000
  left : ∀ x, x ∈ g.prods → ∃ k : Nat, x.left = k ∧ k < g.sorts.length
  right : ∀ x, x ∈ g.prods → x.right.length ≤ 30
  kind : ∀ x, x ∈ g.prods → ∀ s, s ∈ x.right → s.kind = 0 ∨ s.kind = 1
  sym : ∀ x, x ∈ g.prods → ∀ s, s ∈ x.right → s.kind = 1 → ∃ k : Nat, s.sort = k ∧ k < g.sorts.length
  start : ∃ k : Nat, g.start = k ∧ k < g.sorts.length
  forb : ∀ f, f ∈ g.forbid → (∃ k : Nat, f.parent = k ∧ k < g.prods.length) ∧ (∃ k : Nat, f.child = k ∧ k < g.prods.length)
  fol : ∀ f, f ∈ g.follow → ∃ k : Nat, f.sort = k ∧ k < g.sorts.length
theorem mayB_of {g : GramM} (h : checkB g = true) : MayB g := by
  unfold checkB sortsB' startB prodsB forbidsB followsB at h
  simp only [Bool.and_eq_true, decide_eq_true_eq, List.all_eq_true] at h
  obtain ⟨⟨h1, h2, h3, h4⟩, h5, ⟨h6, h7⟩, ⟨h8, h9⟩, h10, h11⟩ := h
  have hp : ∀ x, x ∈ g.prods → numB x.left g.sorts.length = true ∧ x.right.length ≤ 30 ∧ ∀ s, s ∈ x.right → symB g.sorts.length s = true := fun x hx => by
    have := h7 x hx
    unfold prodB at this
    simp only [Bool.and_eq_true, decide_eq_true_eq, List.all_eq_true] at this
    exact ⟨this.1, this.2.1, this.2.2.1⟩
  refine ⟨h1, h2, h6, fun x hx => numB_nat (hp x hx).1, fun x hx => (hp x hx).2.1, fun x hx s hs => ?_, fun x hx s hs hk => ?_, numB_nat h5, fun f hf => ?_, fun f hf => ?_⟩
  · have := (hp x hx).2.2 s hs
    unfold symB at this
    by_cases e : s.kind = 0
    · exact .inl e
    · rw [if_neg e] at this
      by_cases e1 : s.kind = 1
      · exact .inr e1
      · rw [if_neg e1] at this; cases this
  · have := (hp x hx).2.2 s hs
    unfold symB at this
    rw [if_neg (by rw [hk]; decide), if_pos hk, Bool.and_eq_true] at this
    exact numB_nat this.2
  · have := h9 f hf
    unfold forbidB at this
    simp only [Bool.and_eq_true] at this
    exact ⟨numB_nat this.1, numB_nat this.2.1⟩
  · have := h10 f hf
    unfold folB at this
    simp only [Bool.and_eq_true] at this
    exact numB_nat this.1

/-- A sort is productive. -/
inductive PV (g : GramM) : Nat → Prop
  | mk (x : ProdM) (hx : x ∈ g.prods) (hr : x.role ≠ 11) (h : ∀ s, s ∈ x.right → s.kind = 1 → PV g s.sort.toNat) : PV g x.left.toNat

/-- What a list of bools says of a number. -/
def lv (L : List Bool) (i : Int) : Bool := L.getD i.toNat false
def okP (L : List Bool) (x : ProdM) : Bool := !(x.role == 11) && sortsB (lv L) x
def Sound (g : GramM) (L : List Bool) : Prop := ∀ k : Nat, L[k]? = some true → PV g k
def Closed (g : GramM) (L : List Bool) : Prop := ∀ x, x ∈ g.prods → okP L x = true → lv L x.left = true
theorem lv_true {L : List Bool} {i : Int} (h : lv L i = true) : L[i.toNat]? = some true := by
  unfold lv at h
  rw [List.getD_eq_getElem?_getD] at h
  cases e : L[i.toNat]? with
  | none => rw [e] at h; cases h
  | some b => rw [e] at h; simp at h; rw [h]
theorem lv_some {L : List Bool} {i : Int} (h : L[i.toNat]? = some true) : lv L i = true := by
  unfold lv
  rw [List.getD_eq_getElem?_getD, h]; rfl
theorem okP_pv {g : GramM} {L : List Bool} (hS : Sound g L) {x : ProdM} (hx : x ∈ g.prods) (h : okP L x = true) : PV g x.left.toNat := by
  unfold okP sortsB at h
  rw [Bool.and_eq_true, List.all_eq_true] at h
  refine PV.mk x hx (fun e => by rw [e] at h; simp at h) (fun s hs hk => ?_)
  have := h.2 s hs
  unfold sortB at this
  rw [hk] at this
  simp at this
  exact hS _ (lv_true this)
theorem sound_set {g : GramM} {L : List Bool} (hS : Sound g L) {x : ProdM} (hx : x ∈ g.prods) (h : okP L x = true) : Sound g (L.set x.left.toNat true) := by
  intro k hk
  rw [List.getElem?_set] at hk
  split at hk
  · next e => subst e; exact okP_pv hS hx h
  · exact hS k hk
theorem closed_pv {g : GramM} {L : List Bool} (hC : Closed g L) {k : Nat} (h : PV g k) : L[k]? = some true := by
  induction h with
  | mk x hx hr _ ih =>
    refine lv_true (hC x hx ?_)
    unfold okP sortsB
    rw [Bool.and_eq_true, List.all_eq_true]
    refine ⟨by simpa using hr, fun s hs => ?_⟩
    unfold sortB
    by_cases e : s.kind = 1
    · rw [lv_some (ih s hs e)]; simp
    · have : (s.kind == 1) = false := by simpa using e
      rw [this]; rfl
/-- The list tells which sorts are productive. -/
def Live (g : GramM) (L : List Bool) : Prop := L.length = g.sorts.length ∧ ∀ k : Nat, L[k]? = some true ↔ PV g k
theorem live_of {g : GramM} {L : List Bool} (hl : L.length = g.sorts.length) (hS : Sound g L) (hC : Closed g L) : Live g L := ⟨hl, fun k => ⟨hS k, closed_pv hC⟩⟩
theorem Live.unique {g : GramM} {L L' : List Bool} (h : Live g L) (h' : Live g L') : L = L' := by
  apply List.ext_getElem?
  intro k
  by_cases hk : k < g.sorts.length
  · have e1 : L[k]? = some (L[k]'(by rw [h.1]; exact hk)) := List.getElem?_eq_getElem _
    have e2 : L'[k]? = some (L'[k]'(by rw [h'.1]; exact hk)) := List.getElem?_eq_getElem _
    rw [e1, e2]
    have a := h.2 k
    have b := h'.2 k
    rw [e1] at a
    rw [e2] at b
    simp only [Option.some.injEq] at a b ⊢
    rw [Bool.eq_iff_iff]
    exact a.trans b.symm
  · rw [List.getElem?_eq_none (by rw [h.1]; omega), List.getElem?_eq_none (by rw [h'.1]; omega)]

/-- The cells of bools. -/
def bools (L : List Bool) : Array Value := (L.map Value.bool).toArray
theorem bools_at (L : List Bool) (i : Nat) (h : i < L.length) : (bools L)[i]? = some (.bool (lv L i)) := by
  unfold bools lv
  simp [List.getElem?_eq_getElem h, List.getD_eq_getElem?_getD]
theorem bools_set (L : List Bool) (i : Nat) : (bools L).setIfInBounds i (.bool true) = bools (L.set i true) := by
  unfold bools
  rw [List.setIfInBounds_toArray, List.map_set]
theorem bools_made (n : Nat) : madeCells #[.bool false] n = bools (List.replicate n false) := by
  unfold bools madeCells
  apply Array.ext'
  simp [Nat.mod_one, List.map_const']
theorem count_set {L : List Bool} {i : Nat} (h : L[i]? = some false) : (L.set i true).count false < L.count false := by
  induction L generalizing i with
  | nil => simp at h
  | cons b r ih =>
    cases i with
    | zero => simp at h; subst h; simp
    | succ i => simp at h; simp only [List.set_cons_succ, List.count_cons]; have := ih h; omega
theorem Blk.row {w : World} {B : Nat} {L : List Bool} (h : Blk w B 4 (bools L)) : RowBool w (some ⟨B, 0, none⟩) L := fun i x hx => by
  refine ⟨B, 0, rfl, h.lt, fun j v hj => ?_, trivial⟩
  have hj0 : j = 0 := by
    have := (Array.getElem?_eq_some_iff.1 hj).1
    simp [boolC] at this; exact this
  subst hj0
  simp [boolC] at hj
  subst hj
  have hil := (List.getElem?_eq_some_iff.1 hx).1
  rw [Nat.mul_one, Nat.zero_add, Nat.add_zero, h.cell i, bools_at L i hil]
  unfold lv
  rw [List.getD_eq_getElem?_getD]
  simp [hx]
end Go.Proofs.YtodnlcbnbkkanaaGreatDoor
end
section
namespace Go.Proofs.YtodnlcbnbkkanaaGreatDoor
open Go Go.RowKit

/-! The texts of sorts. -/

/-- A text of one symbol, by what its sorts' texts are. -/
def SymT (T : Nat → List UInt8 → Prop) (s : SymM) (t : List UInt8) : Prop := (s.kind = 1 ∧ T s.sort.toNat t) ∨ (s.kind ≠ 1 ∧ ∃ b : UInt8, t = [b] ∧ s.set.getLsbD b.toNat = true)
def TXs (T : Nat → List UInt8 → Prop) : List SymM → List UInt8 → Prop
  | [], t => t = []
  | s :: r, t => ∃ a b, t = a ++ b ∧ SymT T s a ∧ TXs T r b
theorem SymT.imp {T U : Nat → List UInt8 → Prop} {s : SymM} {t : List UInt8} (h : SymT T s t) (hi : s.kind = 1 → ∀ t, T s.sort.toNat t → U s.sort.toNat t) : SymT U s t := by
  rcases h with ⟨h, k⟩ | h
  · exact .inl ⟨h, hi h _ k⟩
  · exact .inr h
theorem TXs.imp {T U : Nat → List UInt8 → Prop} : ∀ {l : List SymM} {t : List UInt8}, TXs T l t → (∀ s, s ∈ l → s.kind = 1 → ∀ t, T s.sort.toNat t → U s.sort.toNat t) → TXs U l t := by
  intro l
  induction l with
  | nil => intro t h _; exact h
  | cons s r ih =>
    rintro t ⟨a, b, rfl, h1, h2⟩ hi
    exact ⟨a, b, rfl, h1.imp (hi s (by simp)), ih h2 fun x hx => hi x (by simp [hx])⟩
theorem TXs.append {T : Nat → List UInt8 → Prop} : ∀ {l m : List SymM} {a b : List UInt8}, TXs T l a → TXs T m b → TXs T (l ++ m) (a ++ b) := by
  intro l
  induction l with
  | nil => intro m a b h k; cases h; exact k
  | cons s r ih =>
    rintro m a b ⟨c, d, rfl, h1, h2⟩ k
    exact ⟨c, d ++ b, by simp, h1, ih h2 k⟩
theorem TXs.split {T : Nat → List UInt8 → Prop} : ∀ {l m : List SymM} {t : List UInt8}, TXs T (l ++ m) t → ∃ a b, t = a ++ b ∧ TXs T l a ∧ TXs T m b := by
  intro l
  induction l with
  | nil => intro m t h; exact ⟨[], t, rfl, rfl, h⟩
  | cons s r ih =>
    rintro m t ⟨c, d, rfl, h1, h2⟩
    obtain ⟨a, b, rfl, h3, h4⟩ := ih h2
    exact ⟨c ++ a, b, by simp, ⟨c, a, rfl, h1, h3⟩, h4⟩

/-- Is a production one of trees? -/
abbrev treeP (x : ProdM) : Prop := x.role ≠ 11
/-- A sort has a text by a tree of at most so many levels. -/
def TXd (g : GramM) : Nat → Nat → List UInt8 → Prop
  | 0, _, _ => False
  | d + 1, k, t => ∃ x, x ∈ g.prods ∧ treeP x ∧ x.left.toNat = k ∧ TXs (TXd g d) x.right t
def TX (g : GramM) (k : Nat) (t : List UInt8) : Prop := ∃ d, TXd g d k t
theorem TXd.succ {g : GramM} : ∀ {d k : Nat} {t : List UInt8}, TXd g d k t → TXd g (d + 1) k t := by
  intro d
  induction d with
  | zero => intro k t h; exact h.elim
  | succ d ih =>
    rintro k t ⟨x, hx, hr, hl, h⟩
    exact ⟨x, hx, hr, hl, h.imp fun s _ _ t => ih⟩
theorem TXd.mono {g : GramM} {d e k : Nat} {t : List UInt8} (h : TXd g d k t) (hd : d ≤ e) : TXd g e k t := by
  induction hd with
  | refl => exact h
  | step _ ih => exact ih.succ
theorem TXs.level {g : GramM} : ∀ {l : List SymM} {t : List UInt8}, TXs (TX g) l t → ∃ d, TXs (TXd g d) l t := by
  intro l
  induction l with
  | nil => intro t h; exact ⟨0, h⟩
  | cons s r ih =>
    rintro t ⟨a, b, rfl, h1, h2⟩
    obtain ⟨d, h2⟩ := ih h2
    rcases h1 with ⟨hk, e, h1⟩ | h1
    · exact ⟨max d e, a, b, rfl, .inl ⟨hk, h1.mono (Nat.le_max_right _ _)⟩, h2.imp fun _ _ _ _ h => h.mono (Nat.le_max_left _ _)⟩
    · exact ⟨d, a, b, rfl, .inr h1, h2⟩
theorem TX.mk {g : GramM} {x : ProdM} {t : List UInt8} (hx : x ∈ g.prods) (hr : treeP x) (h : TXs (TX g) x.right t) : TX g x.left.toNat t := by
  obtain ⟨d, h⟩ := h.level
  exact ⟨d + 1, x, hx, hr, rfl, h⟩
theorem TX.ind {g : GramM} {P : Nat → List UInt8 → Prop} (hP : ∀ (x : ProdM) (t : List UInt8), x ∈ g.prods → treeP x → TXs (TX g) x.right t → TXs P x.right t → P x.left.toNat t) {k : Nat} {t : List UInt8} (h : TX g k t) : P k t := by
  obtain ⟨d, h⟩ := h
  induction d generalizing k t with
  | zero => exact h.elim
  | succ d ih =>
    obtain ⟨x, hx, hr, rfl, h⟩ := h
    exact hP x t hx hr (h.imp fun _ _ _ _ h => ⟨d, h⟩) (h.imp fun _ _ _ _ h => ih h)
theorem TX.out {g : GramM} {k : Nat} {t : List UInt8} (h : TX g k t) : ∃ x, x ∈ g.prods ∧ treeP x ∧ x.left.toNat = k ∧ TXs (TX g) x.right t := by
  obtain ⟨d, h⟩ := h
  cases d with
  | zero => exact h.elim
  | succ d => obtain ⟨x, hx, hr, hl, h⟩ := h; exact ⟨x, hx, hr, hl, h.imp fun _ _ _ _ h => ⟨d, h⟩⟩

/-- No set of a production is empty. -/
structure MaySet (g : GramM) : Prop where
  set : ∀ x, x ∈ g.prods → ∀ s, s ∈ x.right → s.kind ≠ 1 → s.kind = 0 ∧ s.set ≠ 0#256
  role : ∀ x, x ∈ g.prods → x.role = 11 → ∀ s, s ∈ x.right → s.kind ≠ 1 ∨ True
theorem bv_bit {s : BS} (h : s ≠ 0#256) : ∃ b : UInt8, s.getLsbD b.toNat = true := by
  apply Classical.byContradiction
  intro hn
  refine h (BitVec.eq_of_getLsbD_eq fun i hi => ?_)
  rw [BitVec.getLsbD_zero]
  cases c : s.getLsbD i with
  | false => rfl
  | true =>
    refine absurd ⟨UInt8.ofNat i, ?_⟩ hn
    rw [UInt8.toNat_ofNat', Nat.mod_eq_of_lt (by omega)]
    exact c
theorem maySet_of {g : GramM} (h : checkB g = true) : MaySet g := by
  unfold checkB prodsB at h
  simp only [Bool.and_eq_true, decide_eq_true_eq, List.all_eq_true] at h
  obtain ⟨_, _, ⟨_, h7⟩, _⟩ := h
  refine ⟨fun x hx s hs hk => ?_, fun _ _ _ _ _ => .inr trivial⟩
  have := h7 x hx
  unfold prodB at this
  simp only [Bool.and_eq_true, decide_eq_true_eq, List.all_eq_true] at this
  have := this.2.2.1 s hs
  unfold symB at this
  by_cases e : s.kind = 0
  · rw [if_pos e, Bool.and_eq_true] at this
    exact ⟨e, fun h0 => by rw [h0] at this; simp at this⟩
  · rw [if_neg e, if_neg hk] at this; cases this
theorem txs_of {T : Nat → List UInt8 → Prop} : ∀ {l : List SymM}, (∀ s, s ∈ l → ∃ t, SymT T s t) → ∃ t, TXs T l t := by
  intro l
  induction l with
  | nil => intro _; exact ⟨[], rfl⟩
  | cons s r ih =>
    intro h
    obtain ⟨a, ha⟩ := h s (by simp)
    obtain ⟨b, hb⟩ := ih fun x hx => h x (by simp [hx])
    exact ⟨a ++ b, a, b, rfl, ha, hb⟩
/-- A sort is productive just if it has a text. -/
theorem pv_iff {g : GramM} (hs : MaySet g) {k : Nat} : PV g k ↔ ∃ t, TX g k t := by
  constructor
  · intro h
    induction h with
    | mk x hx hr _ ih =>
      obtain ⟨t, ht⟩ : ∃ t, TXs (TX g) x.right t := txs_of fun s hsx => by
        by_cases hk : s.kind = 1
        · obtain ⟨t, ht⟩ := ih s hsx hk
          exact ⟨t, .inl ⟨hk, ht⟩⟩
        · obtain ⟨b, hb⟩ := bv_bit (hs.set x hx s hsx hk).2
          exact ⟨[b], .inr ⟨hk, b, rfl, hb⟩⟩
      exact ⟨t, TX.mk hx hr ht⟩
  · rintro ⟨t, ht⟩
    refine TX.ind (P := fun k _ => PV g k) (fun x t hx hr _ h => PV.mk x hx hr fun s hsx hk => ?_) ht
    have : ∀ (l : List SymM) (t : List UInt8), TXs (fun k _ => PV g k) l t → ∀ s, s ∈ l → s.kind = 1 → PV g s.sort.toNat := by
      intro l
      induction l with
      | nil => intro t _ s hs; cases hs
      | cons y r ih =>
        rintro t ⟨a, b, _, h1, h2⟩ s hs hk
        rcases List.mem_cons.1 hs with rfl | hs
        · rcases h1 with ⟨_, h1⟩ | ⟨h1, _⟩
          · exact h1
          · exact absurd hk h1
        · exact ih b h2 s hs hk
    exact this _ _ h s hsx hk
theorem txs_each {T : Nat → List UInt8 → Prop} : ∀ {l : List SymM} {t : List UInt8}, TXs T l t → ∀ s, s ∈ l → ∃ a, SymT T s a := by
  intro l
  induction l with
  | nil => intro t _ s hs; cases hs
  | cons y r ih =>
    rintro t ⟨a, b, _, h1, h2⟩ s hs
    rcases List.mem_cons.1 hs with rfl | hs
    · exact ⟨a, h1⟩
    · exact ih h2 s hs

/-! How short they are. -/

/-- Above this all lengths are one. -/
def capL : Nat := 1048577
def gi (S : List Int) (i : Int) : Int := S.getD i.toNat (-1)
def symN (S : List Int) (s : SymM) : Int := if s.kind = 1 then gi S s.sort else 1
/-- How many bytes the shortest text of some symbols has, behind n bytes; -1: there is none. -/
def sumA (S : List Int) : List SymM → Int → Int
  | [], n => n
  | s :: r, n => if symN S s < 0 then -1 else sumA S r (min (n + symN S s) 1048577)
theorem sumA_cons (S : List Int) (s : SymM) (r : List SymM) (n : Int) : sumA S (s :: r) n = if symN S s < 0 then -1 else sumA S r (min (n + symN S s) 1048577) := rfl
theorem sumA_snoc (S : List Int) (s : SymM) : ∀ (l : List SymM) (n : Int), 0 ≤ n → sumA S (l ++ [s]) n = if sumA S l n < 0 then -1 else if symN S s < 0 then -1 else min (sumA S l n + symN S s) 1048577 := by
  intro l
  induction l with
  | nil =>
    intro n hn
    show (if symN S s < 0 then -1 else min (n + symN S s) 1048577) = if n < 0 then -1 else if symN S s < 0 then -1 else min (n + symN S s) 1048577
    exact (if_neg (by omega : ¬ n < 0)).symm
  | cons x r ih =>
    intro n hn
    by_cases h : symN S x < 0
    · have e : sumA S (x :: r) n = -1 := if_pos h
      have e2 : sumA S (x :: r ++ [s]) n = -1 := if_pos h
      rw [e2, if_pos (by rw [e]; decide)]
    · have e : sumA S (x :: r) n = sumA S r (min (n + symN S x) 1048577) := if_neg h
      have e2 : sumA S (x :: r ++ [s]) n = sumA S (r ++ [s]) (min (n + symN S x) 1048577) := if_neg h
      rw [e2, ih _ (by omega)]
      simp only [e]
theorem sumA_range (S : List Int) : ∀ (l : List SymM) (n : Int), 0 ≤ n → n ≤ 1048577 → -1 ≤ sumA S l n ∧ sumA S l n ≤ 1048577 := by
  intro l
  induction l with
  | nil => intro n h1 h2; simp only [sumA]; omega
  | cons s r ih =>
    intro n h1 h2
    simp only [sumA]
    split
    · omega
    · exact ih _ (by omega) (by omega)
theorem sumA_low (S : List Int) : ∀ (l : List SymM) (n : Int), 0 ≤ n → n ≤ 1048577 → 0 ≤ sumA S l n → n ≤ sumA S l n := by
  intro l
  induction l with
  | nil => intro n h1 h2 _; simp only [sumA]; omega
  | cons s r ih =>
    intro n h1 h2 h3
    simp only [sumA] at h3 ⊢
    split at h3
    · omega
    · rw [if_neg (by assumption)]
      have := ih _ (by omega) (by omega) h3
      omega
/-- The sum of some symbols is no less than each of them. -/
theorem sumA_ge (S : List Int) : ∀ (l : List SymM) (n : Int), 0 ≤ n → n ≤ 1048577 → 0 ≤ sumA S l n → ∀ s, s ∈ l → 0 ≤ symN S s ∧ min (symN S s) 1048577 ≤ sumA S l n := by
  intro l
  induction l with
  | nil => intro n h1 h2 _ s hs; cases hs
  | cons x r ih =>
    intro n h1 h2 h3 s hs
    simp only [sumA] at h3 ⊢
    split at h3
    · omega
    · next hx =>
      rw [if_neg hx]
      rcases List.mem_cons.1 hs with rfl | hs
      · have := sumA_low S r _ (by omega) (by omega) h3
        omega
      · exact ih _ (by omega) (by omega) h3 s hs
/-- The list tells how short sorts' texts are. -/
def ShortP (g : GramM) (S : List Int) : Prop := S.length = g.sorts.length ∧ ∀ (k : Nat) (n : Int), S[k]? = some n →
  (n = -1 ∧ ∀ t, ¬ TX g k t) ∨ ∃ t, TX g k t ∧ n = min (t.length : Int) 1048577 ∧ ∀ t', TX g k t' → n ≤ t'.length
theorem ShortP.unique {g : GramM} {S S' : List Int} (h : ShortP g S) (h' : ShortP g S') : S = S' := by
  refine List.ext_getElem (h.1.trans h'.1.symm) fun k h1 h2 => ?_
  have a := h.2 k _ (List.getElem?_eq_getElem h1)
  have b := h'.2 k _ (List.getElem?_eq_getElem h2)
  generalize S[k] = m at *
  generalize S'[k] = n at *
  rcases a with ⟨rfl, a⟩ | ⟨t, ht, hm, hl⟩
  · rcases b with ⟨rfl, _⟩ | ⟨t, ht, _⟩
    · rfl
    · exact absurd ht (a t)
  · rcases b with ⟨_, b⟩ | ⟨u, hu, hn, hlu⟩
    · exact absurd ht (b t)
    · have := hl u hu
      have := hlu t ht
      omega
/-- What is told so far is so of some text. -/
def SoundN (g : GramM) (S : List Int) : Prop := ∀ (k : Nat) (n : Int), S[k]? = some n → n = -1 ∨ ∃ t, TX g k t ∧ n = min (t.length : Int) 1048577
def okN (S : List Int) (x : ProdM) : Prop := treeP x → 0 ≤ sumA S x.right 0 → 0 ≤ gi S x.left ∧ gi S x.left ≤ sumA S x.right 0
def ClosedN (g : GramM) (S : List Int) : Prop := ∀ x, x ∈ g.prods → okN S x
theorem gi_some {S : List Int} {i n : Int} (h : S[i.toNat]? = some n) : gi S i = n := by
  unfold gi; rw [List.getD_eq_getElem?_getD, h]; rfl
theorem gi_at {S : List Int} {i : Int} (h : 0 ≤ gi S i) : S[i.toNat]? = some (gi S i) := by
  unfold gi at *
  rw [List.getD_eq_getElem?_getD] at *
  cases e : S[i.toNat]? with
  | none => rw [e] at h; simp at h
  | some n => rfl
theorem SoundN.lo {g : GramM} {S : List Int} (h : SoundN g S) (i : Int) : -1 ≤ gi S i ∧ gi S i ≤ 1048577 := by
  unfold gi
  rw [List.getD_eq_getElem?_getD]
  cases e : S[i.toNat]? with
  | none => simp
  | some n =>
    simp only [Option.getD_some]
    rcases h _ _ e with rfl | ⟨t, _, rfl⟩ <;> omega
theorem sum_text {g : GramM} (hs : MaySet g) {S : List Int} (h : SoundN g S) : ∀ {l : List SymM} {n : Int}, (∀ s, s ∈ l → s.kind ≠ 1 → s.set ≠ 0#256) → 0 ≤ n → 0 ≤ sumA S l n → ∃ t, TXs (TX g) l t ∧ min (sumA S l n) 1048577 = min (n + t.length) 1048577 := by
  intro l
  induction l with
  | nil => intro n _ _ _; exact ⟨[], rfl, by simp [sumA]⟩
  | cons s r ih =>
    intro n he hn hp
    simp only [sumA] at hp ⊢
    split at hp
    · omega
    · next hk =>
      rw [if_neg hk]
      obtain ⟨b, hb1, hb2⟩ := ih (fun x hx => he x (by simp [hx])) (by omega) hp
      obtain ⟨a, ha1, ha2⟩ : ∃ a, SymT (TX g) s a ∧ symN S s = min (a.length : Int) 1048577 := by
        unfold symN at hk ⊢
        by_cases e : s.kind = 1
        · rw [if_pos e] at hk ⊢
          rcases h _ _ (gi_at (S := S) (i := s.sort) (by omega)) with e1 | ⟨t, ht, h1⟩
          · omega
          · exact ⟨t, .inl ⟨e, ht⟩, h1⟩
        · rw [if_neg e]
          obtain ⟨b, hb⟩ := bv_bit (he s (by simp) e)
          exact ⟨[b], .inr ⟨e, b, rfl, hb⟩, by simp; decide⟩
      refine ⟨a ++ b, ⟨a, b, rfl, ha1, hb1⟩, ?_⟩
      rw [hb2, List.length_append]
      omega
theorem SoundN.set {g : GramM} (hs : MaySet g) {S : List Int} (h : SoundN g S) {x : ProdM} (hx : x ∈ g.prods) (hr : treeP x) (hp : 0 ≤ sumA S x.right 0) : SoundN g (S.set x.left.toNat (sumA S x.right 0)) := by
  intro k n hk
  rw [List.getElem?_set] at hk
  split at hk
  · next e =>
    subst e
    split at hk
    · cases hk
      obtain ⟨t, h1, h2⟩ := sum_text hs h (fun s hsx hk => (hs.set x hx s hsx hk).2) (Int.le_refl 0) hp
      have := sumA_range S x.right 0 (by omega) (by omega)
      exact .inr ⟨t, TX.mk hx hr h1, by omega⟩
    · cases hk
  · exact h k n hk
theorem text_sum {S : List Int} : ∀ {l : List SymM} {t : List UInt8} {n : Int}, TXs (fun k t => 0 ≤ gi S k ∧ gi S k ≤ min (t.length : Int) 1048577) l t → (∀ s, s ∈ l → s.kind = 1 → 0 ≤ s.sort) → 0 ≤ n → n ≤ 1048577 → 0 ≤ sumA S l n ∧ sumA S l n ≤ min (n + t.length) 1048577 := by
  intro l
  induction l with
  | nil => intro t n h _ h0 h1; cases h; simp only [sumA, List.length_nil]; omega
  | cons s r ih =>
    rintro t n ⟨a, b, rfl, h1, h2⟩ hp h0 hn
    have hk : 0 ≤ symN S s ∧ symN S s ≤ min (a.length : Int) 1048577 := by
      unfold symN
      rcases h1 with ⟨e, h1⟩ | ⟨e, b, rfl, _⟩
      · rw [if_pos e]
        rw [Int.toNat_of_nonneg (hp s (by simp) e)] at h1
        exact h1
      · rw [if_neg e]; simp; decide
    simp only [sumA]
    rw [if_neg (by omega), List.length_append]
    have := ih h2 (fun x hx => hp x (by simp [hx])) (n := min (n + symN S s) 1048577) (by omega) (by omega)
    omega
theorem shortP_of {g : GramM} (hm : MayB g) {S : List Int} (hl : S.length = g.sorts.length) (h : SoundN g S) (hc : ClosedN g S) : ShortP g S := by
  have low : ∀ (k : Nat) (t : List UInt8), TX g k t → 0 ≤ gi S k ∧ gi S k ≤ min (t.length : Int) 1048577 := fun k t ht => by
    refine TX.ind (P := fun k t => 0 ≤ gi S k ∧ gi S k ≤ min (t.length : Int) 1048577) (fun x t hx hr _ h => ?_) ht
    have h2 := text_sum (n := 0) h (fun s hs hk => by obtain ⟨k, hk, _⟩ := hm.sym x hx s hs hk; omega) (by omega) (by omega)
    have h3 := hc x hx hr h2.1
    obtain ⟨k, hk, _⟩ := hm.left x hx
    rw [hk] at h3 ⊢
    rw [Int.toNat_natCast]
    omega
  refine ⟨hl, fun k n hk => ?_⟩
  have hg : gi S k = n := gi_some (by rw [Int.toNat_natCast]; exact hk)
  rcases h k n hk with rfl | ⟨t, ht, hn⟩
  · exact .inl ⟨rfl, fun t ht => by have := (low k t ht).1; omega⟩
  · exact .inr ⟨t, ht, hn, fun t' ht' => by have := (low k t' ht').2; omega⟩
/-- What has been told gets less each time. -/
def sizeN (S : List Int) : Nat := (S.map fun n => if n < 0 then 1048578 else n.toNat).foldr (· + ·) 0
theorem sizeN_cons (n : Int) (S : List Int) : sizeN (n :: S) = (if n < 0 then 1048578 else n.toNat) + sizeN S := rfl
theorem sizeN_set : ∀ {S : List Int} {k : Nat} {m n : Int}, S[k]? = some m → 0 ≤ n → n ≤ 1048577 → (m < 0 ∨ n < m) → sizeN (S.set k n) < sizeN S := by
  intro S
  induction S with
  | nil => intro k m n h; simp at h
  | cons a r ih =>
    intro k m n h h0 h1 h2
    cases k with
    | zero =>
      simp at h; subst h
      rw [List.set_cons_zero, sizeN_cons, sizeN_cons, if_neg (by omega)]
      split <;> omega
    | succ k =>
      rw [List.set_cons_succ, sizeN_cons, sizeN_cons]
      have := ih (k := k) (by simpa using h) h0 h1 h2
      omega
end Go.Proofs.YtodnlcbnbkkanaaGreatDoor
end
section
namespace Go.Proofs.YtodnlcbnbkkanaaGreatDoor
open Go Go.RowKit

set_option maxRecDepth 100000 in
set_option maxHeartbeats 1000000 in
/-- mark: a sort is marked; was it not yet? -/
theorem mark_any (M : List Bool) (B k n c : Nat) (w : World) (hb : Blk w B 4 (bools M)) (hk : k < M.length) (hn : M.length ≤ n) (hn2 : n ≤ 1048576) :
    Calls Tryz.prog 72 #[.slice (some ⟨B, 0, none⟩) n c, .int .i64 k] w fun e w' => e = .returned (.bool (!lv M k)) ∧ w' = w.setCell ⟨B, k, none⟩ (.bool true) := by
  have c0 := hb.cell k
  rw [bools_at M k hk] at c0
  have f0 := hb.frozen k
  have l0 := hb.lt
  have z0 : (0 : Int) ≤ (k : Int) := by omega
  have z1 : (k : Int) < (n : Int) := by omega
  obtain ⟨v, hv⟩ : ∃ v, v = lv M k := ⟨_, rfl⟩
  rw [← hv] at c0 ⊢
  clear hv hb hk hn
  go_enter Tryz.func72, Tryz.ntmps72
  go_wp2
  go_ret
  exact ⟨rfl, rfl⟩

set_option maxRecDepth 100000 in
set_option maxHeartbeats 1000000 in
/-- making's closure. -/
theorem making1_any (x : ProdM) (w : World) : Calls Tryz.prog 99 #[prodV x] w fun e w' => e = .returned (.bool (x.role == 11)) ∧ Below w.heap.size w w' := by
  unfold prodV prodC
  go_enter Tryz.func99, Tryz.ntmps99
  go_wp2
  go_ret
  exact ⟨rfl, (Below.refl _ _).alloc (Nat.le_refl _) _⟩

/-- Of which productions it is known that they say nothing new: the last q ones ahead of j, round and round. -/
def QuietAt {σ : Type} (Q : ProdM → σ → Prop) (L : List ProdM) (s : σ) (q j : Nat) : Prop := ∀ (i : Nat) (x : ProdM), L[i]? = some x → (i < j ∧ j ≤ i + q) ∨ (j ≤ i ∧ j + L.length ≤ i + q) → Q x s
theorem QuietAt.none {σ : Type} {Q : ProdM → σ → Prop} {L : List ProdM} {s : σ} (j : Nat) : QuietAt Q L s 0 j := fun i x hx h => by
  have := (List.getElem?_eq_some_iff.1 hx).1
  omega
theorem QuietAt.more {σ : Type} {Q : ProdM → σ → Prop} {L : List ProdM} {s : σ} {q j : Nat} (h : QuietAt Q L s q j) {x : ProdM} (hx : L[j]? = some x) (hq : Q x s) : QuietAt Q L s (q + 1) (j + 1) := fun i y hy hi => by
  by_cases e : i = j
  · subst e; rw [hx] at hy; cases hy; exact hq
  · exact h i y hy (by omega)
theorem QuietAt.next {σ : Type} {Q : ProdM → σ → Prop} {L : List ProdM} {s : σ} {q : Nat} (h : QuietAt Q L s q L.length) : QuietAt Q L s q 0 := fun i y hy hi => by
  have := (List.getElem?_eq_some_iff.1 hy).1
  exact h i y hy (by omega)
theorem QuietAt.all {σ : Type} {Q : ProdM → σ → Prop} {L : List ProdM} {s : σ} {q j : Nat} (h : QuietAt Q L s q j) (hq : L.length ≤ q) (hj : j ≤ L.length) : ∀ x, x ∈ L → Q x s := fun x hx => by
  obtain ⟨i, hi⟩ := List.mem_iff_getElem?.1 hx
  have := (List.getElem?_eq_some_iff.1 hi).1
  exact h i x hi (by omega)

/-- How settle's closure goes on: from a state to the next. -/
def StepsBy {σ : Type} (K : Nat) (lb : Array Value) (L : List ProdM) (Inv : σ → World → Prop) (Q : ProdM → σ → Prop) (μ : σ → Nat) : Prop :=
  ∀ (s : σ) (W : World) (p : ProdM), p ∈ L → Inv s W → Calls Tryz.prog K (#[prodV p] ++ lb) W fun e w' => ∃ b s', e = .returned (.bool b) ∧ Inv s' w' ∧ (b = false → s' = s ∧ Q p s) ∧ (b = true → μ s' < μ s)

set_option maxRecDepth 100000 in
set_option maxHeartbeats 4000000 in
/-- settle: it ends, where no production says anything new. -/
theorem settle_any {σ : Type} (L : List ProdM) (aL : Option Addr) (cL : Nat) (K : Nat) (lb : Array Value) (eg : ∀ args w, (callFunc K args).run Tryz.prog w = .ok (.enter K args) w)
    (Inv : σ → World → Prop) (Q : ProdM → σ → Prop) (μ : σ → Nat) (hL : L.length ≤ 1048576)
    (hrow : ∀ s W, Inv s W → RowProd W aL L) (hInv : ∀ s W W', Inv s W → Below W.heap.size W W' → Inv s W') (H : StepsBy K lb L Inv Q μ) (s0 : σ) (w : World) (h0 : Inv s0 w) :
    Calls Tryz.prog 67 #[.slice aL L.length cL, .func (.func K) #[] lb] w fun e w' => e = .returned (.tuple #[]) ∧ ∃ s, Inv s w' ∧ ∀ p, p ∈ L → Q p s := by
  have HR := Lib.hid hrow
  have HI := Lib.hid hInv
  have HH := Lib.hid H
  have H0 := Lib.hid h0
  obtain ⟨n, hn⟩ : ∃ n, n = L.length := ⟨_, rfl⟩
  have HN := Lib.hid hn
  rw [← hn] at hL ⊢
  clear hrow hInv H h0 hn
  go_enter Tryz.func67, Tryz.ntmps67
  go_wp2
  go_step3
  go_wp2
  go_step3
  go_wp2
  go_loopg [4] (μ s0) (fun gg vq wr => ∃ (q : Nat) (s : σ), vq = .int .i64 q ∧ q ≤ n ∧ μ s ≤ gg ∧ Hid (Inv s wr ∧ QuietAt Q L s q 0))
  case atStart => exact ⟨0, s0, rfl, Nat.zero_le _, Nat.le_refl _, Lib.hid ⟨H0.out, QuietAt.none 0⟩⟩
  case round =>
    clear H0
    obtain ⟨q0, sa, rfl, hq0, hμ, K0⟩ := hrel
    by_cases hlt : q0 < n
    · have z1 : (q0 : Int) < (n : Int) := by omega
      go_wp2
      go_loopg [4, 13] n (fun gg vq vj wr => ∃ (q j : Nat) (s : σ), vq = .int .i64 q ∧ vj = .int .i64 j ∧ q < n ∧ j ≤ n ∧ n - j ≤ gg ∧ Hid (Inv s wr ∧ QuietAt Q L s q j ∧ ((s = sa ∧ j ≤ q) ∨ μ s < μ sa)))
      case atStart => exact ⟨q0, 0, sa, rfl, rfl, hlt, Nat.zero_le _, Nat.le_refl _, Lib.hid ⟨K0.out.1, K0.out.2, .inl ⟨rfl, Nat.zero_le _⟩⟩⟩
      case round =>
        clear K0
        obtain ⟨q, j, s, rfl, rfl, hq, hj, hgg, K1⟩ := hrel
        by_cases hlj : j < n
        · obtain ⟨x, hx⟩ : ∃ x, L[j]? = some x := ⟨_, List.getElem?_eq_getElem (by rw [← HN.out]; exact hlj)⟩
          obtain ⟨b1, o1, rfl, hb1, hc1, hi1⟩ := HR.out s _ K1.out.1 j x hx
          obtain ⟨x0, x1, x2, x3, x4, x5, x6⟩ := Prod_at hc1
          have z2 : (j : Int) < (n : Int) := by omega
          have z0 : (0 : Int) ≤ (j : Int) := by omega
          have z3 : IntKind.i64.wrap ((q : Int) + 1) = (q : Int) + 1 := IntWalk.i64_in _ (by omega)
          have HX := Lib.hid hx
          clear hx hi1 hc1
          have HC := Lib.hid (fun W (hW : Inv s W) => HH.out s W x (List.mem_of_getElem? HX.out) hW)
          have HInv : Hid (∀ W W', Inv s W → Below W.heap.size W W' → Inv s W') := Lib.hid (HI.out s)
          unfold prodV prodC at HC
          go_wp2_with fail
          refine (HC.out _ (HInv.out _ _ K1.out.1 ((Below.refl _ _).alloc (Nat.le_refl _) _))).mono ?_
          rintro e w3 ⟨b, s', rfl, hi3, hb0, hb1⟩
          have HI3 := Lib.hid hi3
          have HQ := Lib.hid K1.out.2
          clear hi3 HC HInv K1
          cases b with
          | true =>
            have hlt3 := hb1 rfl
            have HZ : Hid (Inv s' w3 ∧ QuietAt Q L s' 0 (j + 1) ∧ ((s' = sa ∧ j + 1 ≤ 0) ∨ μ s' < μ sa)) := Lib.hid ⟨HI3.out, QuietAt.none _, .inr (by
              rcases HQ.out.2 with ⟨e, _⟩ | h
              · rw [← e]; exact hlt3
              · omega)⟩
            clear hb0 hb1 hlt3 HQ HI3
            go_wp2
            go_roundg (n - (j + 1))
            case rel => exact ⟨0, j + 1, s', rfl, by go_num, by omega, by omega, Nat.le_refl _, HZ⟩
            case measure => omega
          | false =>
            obtain ⟨rfl, hqs⟩ := hb0 rfl
            have HZ : Hid (Inv s' w3 ∧ QuietAt Q L s' (q + 1) (j + 1) ∧ ((s' = sa ∧ j + 1 ≤ q + 1) ∨ μ s' < μ sa)) := Lib.hid ⟨HI3.out, HQ.out.1.more HX.out hqs, by
              rcases HQ.out.2 with ⟨e, h⟩ | h
              · exact .inl ⟨e, by omega⟩
              · exact .inr h⟩
            clear hb0 hb1 hqs HQ HI3
            by_cases hfull : q + 1 = n
            · have hf1 : ((q : Int) + 1 == (n : Int)) = true := by simp; omega
              have HE : Hid (∀ p, p ∈ L → Q p s') := Lib.hid (HZ.out.2.1.all (by rw [← HN.out]; omega) (by rw [← HN.out]; omega))
              clear hfull
              go_wp2
              rw [Exit.noGoto_normal]
              refine bodyPost_end (results_none rfl _ _ _) rfl ?_
              exact ⟨rfl, s', HZ.out.1, HE.out⟩
            · have hf1 : ((q : Int) + 1 == (n : Int)) = false := by simp; omega
              go_wp2
              go_roundg (n - (j + 1))
              case rel => exact ⟨q + 1, j + 1, s', by go_num, by go_num, by omega, by omega, Nat.le_refl _, HZ⟩
              case measure => omega
        · obtain rfl : j = n := by omega
          have HZ : Hid (Inv s wr ∧ QuietAt Q L s q 0 ∧ μ s < μ sa) := Lib.hid ⟨K1.out.1, (by have h := K1.out.2.1; rw [HN.out] at h; exact h.next), by
            rcases K1.out.2.2 with ⟨_, h⟩ | h
            · omega
            · exact h⟩
          clear K1
          go_wp2
          go_roundg (μ s)
          case rel => exact ⟨q, s, rfl, by omega, Nat.le_refl _, Lib.hid ⟨HZ.out.1, HZ.out.2.1⟩⟩
          case measure => have := HZ.out.2.2; omega
    · obtain rfl : q0 = n := by omega
      have HE : Hid (∀ p, p ∈ L → Q p sa) := Lib.hid (K0.out.2.all (by rw [← HN.out]; omega) (Nat.zero_le _))
      go_wp2
      rw [Exit.noGoto_normal]
      refine bodyPost_end (results_none rfl _ _ _) rfl ?_
      exact ⟨rfl, sa, K0.out.1, HE.out⟩
end Go.Proofs.YtodnlcbnbkkanaaGreatDoor
end
section
namespace Go.Proofs.YtodnlcbnbkkanaaGreatDoor
open Go Go.RowKit

theorem Tryz.info4 : (Tryz.prog.info? 4).map (fun i => (i.zero, i.size, i.bytes)) = some (some (.bool false), 1, 1) := by kernel_rfl
theorem make_bools (n : Nat) (hn : n ≤ 1000) (w : World) : (Instr.makeSlice 31 (.int .i64 (n : Int)) (.int .i64 (n : Int))).run Tryz.prog w = .ok (.slice (some ⟨w.heap.size, 0, none⟩) n n) (w.alloc (.cells (bools (List.replicate n false)) 4)) := by
  obtain ⟨i0, hi, hz0, hz1, hz2⟩ := info_parts Tryz.info4
  rw [← bools_made]
  exact run_make_row 31 4 i0 (.bool false) Tryz.underlying31 hi hz0 hz1 rfl .i64 .i64 n (by rw [hz2]; omega) (by omega) w

/-- What productive's blocks hold. -/
structure PI (g : GramM) (w wr : World) (L : List Bool) : Prop where
  b0 : Blk wr w.heap.size 27 (gramC g)
  b1 : Blk wr (w.heap.size + 1) 4 (bools L)
  b2 : Blk wr (w.heap.size + 1 + 1) 31 #[.slice (some ⟨w.heap.size + 1, 0, none⟩) g.sorts.length g.sorts.length]
  b : Below w.heap.size w wr
  len : L.length = g.sorts.length
theorem PI.below {g : GramM} {w wr W : World} {L : List Bool} (h : PI g w wr L) (hB : Below wr.heap.size wr W) : PI g w W L :=
  ⟨h.b0.below hB h.b0.lt, h.b1.below hB h.b1.lt, h.b2.below hB h.b2.lt, h.b.trans (hB.mono h.b.size), h.len⟩
theorem PI.set {g : GramM} {w wr : World} {L : List Bool} (h : PI g w wr L) (k : Nat) : PI g w (wr.setCell ⟨w.heap.size + 1, k, none⟩ (.bool true)) (L.set k true) :=
  ⟨h.b0.other (by show w.heap.size ≠ w.heap.size + 1; omega) _, by rw [← bools_set]; exact h.b1.set k _, h.b2.other (by show w.heap.size + 1 + 1 ≠ w.heap.size + 1; omega) _,
    h.b.setCell (p := ⟨w.heap.size + 1, k, none⟩) (by show w.heap.size ≤ w.heap.size + 1; omega) _, by rw [List.length_set]; exact h.len⟩
end Go.Proofs.YtodnlcbnbkkanaaGreatDoor
end
