import Derived.Test.YtegmoeeeomjkgaaDoorMk0
namespace Go.Proofs.YtegmoeeeomjkgaaDoor
open Go Go.RowKit Go.Vals

theorem conv_row (a : Option Addr) (c : Nat) (w : World) (l : List Nat) (hd : RowY w a l) (hc : a = none → c = 0) :
    (convert 23 9 (.slice a l.length c)).run Tryd.prog w = .ok (.string (bytesStr l)) w := by
  cases l with
  | nil =>
    cases a with
    | none => obtain rfl := hc rfl; kernel_rfl
    | some ad => kernel_rfl
  | cons x r =>
    obtain ⟨b, off, rfl, _⟩ := hd 0 x rfl
    obtain ⟨L, hL⟩ : ∃ L, L = x :: r := ⟨_, rfl⟩
    rw [← hL] at hd ⊢
    clear hL
    refine run_convert_bytes_arg w 23 5 Tryd.underlying23 Tryd.underlying5 b off L.length c (L.map fun n : Nat => (n : Int)) (by simp) ?_ 9 Tryd.underlying9
    intro i hi
    obtain ⟨b', off', e, h1⟩ := hd i L[i] (List.getElem?_eq_getElem hi)
    cases e
    rw [h1]
    simp [List.getD, hi]

section
variable {o : Oper} {ρ : Operand → Value} {w : World}

theorem ex_len22 {x : Operand} {a : Option Addr} {n c : Nat} (ho : o.op = .call { callee := .builtin .len, args := #[x], argTypes := #[22] }) (hx : ρ x = .slice a n c) : (execOp ρ o).run Tryd.prog w = .ok (.value (.int .i64 n)) w := by
  unfold execOp; rw [ho]; simp only [resolve, invoke, builtin, List.map_toArray, List.map_cons, List.map_nil, hx]; go_simp
theorem ex_len23 {x : Operand} {a : Option Addr} {n c : Nat} (ho : o.op = .call { callee := .builtin .len, args := #[x], argTypes := #[23] }) (hx : ρ x = .slice a n c) : (execOp ρ o).run Tryd.prog w = .ok (.value (.int .i64 n)) w := by
  unfold execOp; rw [ho]; simp only [resolve, invoke, builtin, List.map_toArray, List.map_cons, List.map_nil, hx]; go_simp
theorem ex_len43 {x : Operand} {a : Option Addr} {n c : Nat} (ho : o.op = .call { callee := .builtin .len, args := #[x], argTypes := #[43] }) (hx : ρ x = .slice a n c) : (execOp ρ o).run Tryd.prog w = .ok (.value (.int .i64 n)) w := by
  unfold execOp; rw [ho]; simp only [resolve, invoke, builtin, List.map_toArray, List.map_cons, List.map_nil, hx]; go_simp
theorem ex_add1 {x : Operand} {n : Nat} (ho : o.op = .binOp .add 3 x (.const (.int .i64 1)) 3) (hx : ρ x = .int .i64 n) (hy : ρ (.const (.int .i64 1)) = .int .i64 1) (hn : n ≤ 1000000) : (execOp ρ o).run Tryd.prog w = .ok (.value (.int .i64 ((n + 1 : Nat) : Int))) w := by
  unfold execOp; rw [ho]; simp only [hx, hy]
  have h0 : (0 : Int) ≤ n := by omega
  have h1 : (n : Int) ≤ 1000000 := by omega
  go_simp
  exact IntWalk.i64_in _ (by omega)

theorem ex_cut22 {x y : Operand} {g n m c : Nat} (ho : o.op = .slice 22 x none (some y) none) (hx : ρ x = .slice (some ⟨g, 0, none⟩) n c) (hy : ρ y = .int .i64 m) (hm : m ≤ c) : (execOp ρ o).run Tryd.prog w = .ok (.value (.slice (some ⟨g, 0, none⟩) m c)) w := by
  unfold execOp; rw [ho]; simp only [hx, hy, Option.map]
  have h0 : (0 : Int) ≤ m := by omega
  have h1 : (m : Int) ≤ c := by omega
  go_simp
theorem ex_cut23 {x y : Operand} {g n m c : Nat} (ho : o.op = .slice 23 x none (some y) none) (hx : ρ x = .slice (some ⟨g, 0, none⟩) n c) (hy : ρ y = .int .i64 m) (hm : m ≤ c) : (execOp ρ o).run Tryd.prog w = .ok (.value (.slice (some ⟨g, 0, none⟩) m c)) w := by
  unfold execOp; rw [ho]; simp only [hx, hy, Option.map]
  have h0 : (0 : Int) ≤ m := by omega
  have h1 : (m : Int) ≤ c := by omega
  go_simp
theorem ex_ix22 {x y : Operand} {g n m c : Nat} (ho : o.op = .indexAddr 22 x y) (hx : ρ x = .slice (some ⟨g, 0, none⟩) n c) (hy : ρ y = .int .i64 m) (hm : m < n) : (execOp ρ o).run Tryd.prog w = .ok (.value (.pointer (some ⟨g, m * 2, none⟩))) w := by
  unfold execOp; rw [ho]; simp only [hx, hy]
  have h0 : (0 : Int) ≤ m := by omega
  have h1 : (m : Int) < n := by omega
  go_simp
theorem ex_ix23 {x y : Operand} {g n m c : Nat} (ho : o.op = .indexAddr 23 x y) (hx : ρ x = .slice (some ⟨g, 0, none⟩) n c) (hy : ρ y = .int .i64 m) (hm : m < n) : (execOp ρ o).run Tryd.prog w = .ok (.value (.pointer (some ⟨g, m, none⟩))) w := by
  unfold execOp; rw [ho]; simp only [hx, hy]
  have h0 : (0 : Int) ≤ m := by omega
  have h1 : (m : Int) < n := by omega
  go_simp
theorem ex_fld26 {x : Operand} {g m : Nat} (ho : o.op = .fieldAddr 26 x 1) (hx : ρ x = .pointer (some ⟨g, m, none⟩)) : (execOp ρ o).run Tryd.prog w = .ok (.value (.pointer (some ⟨g, m + 1, none⟩))) w := by
  unfold execOp; rw [ho]; simp only [hx]
  go_simp
theorem ex_ld5 {x : Operand} {p : Addr} {v : Int} (ho : o.op = .load 5 x) (hx : ρ x = .pointer (some p)) (hc : w.cell? p = some (.int .u8 v)) : (execOp ρ o).run Tryd.prog w = .ok (.value (.int .u8 v)) w := by
  unfold execOp; rw [ho]; simp only [hx]
  go_simp
theorem ex_conv {x : Operand} {v r : Value} (ho : o.op = .convert 23 9 x) (hx : ρ x = v) (hc : (convert 23 9 v).run Tryd.prog w = .ok r w) : (execOp ρ o).run Tryd.prog w = .ok (.value r) w := by
  unfold execOp; rw [ho]; simp only [hx]
  go_simp
theorem ex_eqS {x y : Operand} {s : ByteArray} (ho : o.op = .binOp .eql 9 x y 9) (hx : ρ x = .string s) (hy : ρ y = .string s) : (execOp ρ o).run Tryd.prog w = .ok (.value (.bool true)) w := by
  unfold execOp; rw [ho]; simp only [hx, hy]
  go_simp
theorem ex_eqI {x y : Operand} {n : Int} (ho : o.op = .binOp .eql 3 x y 3) (hx : ρ x = .int .i64 n) (hy : ρ y = .int .i64 n) : (execOp ρ o).run Tryd.prog w = .ok (.value (.bool true)) w := by
  unfold execOp; rw [ho]; simp only [hx, hy]
  go_simp
theorem ex_widen {x : Operand} {n : Nat} (ho : o.op = .convert 5 3 x) (hx : ρ x = .int .u8 n) (hn : n < 256) : (execOp ρ o).run Tryd.prog w = .ok (.value (.int .i64 n)) w := by
  unfold execOp; rw [ho]; simp only [hx]
  have h0 : (0 : Int) ≤ n := by omega
  have h1 : (n : Int) < 256 := by omega
  go_simp
  exact IntWalk.i64_in _ (by omega)
end
theorem rnot_zero (w : World) : Calls Tryd.prog 19 #[.agg #[.int .u64 0, .int .u64 0, .int .u64 0, .int .u64 0]] w fun e w' => e = .returned (vset full) ∧ Below w.heap.size w w' := by
  rw [vset_zero]; exact rnot_any 0#256 w
end Go.Proofs.YtegmoeeeomjkgaaDoor
