import Derived.Deep.DeepCutAuto
import Derived.Test.YtiihdbchchnncaaM8
import Derived.Test.YtiihdbchchnncaaM12
import Derived.Test.YtiihdbchchnncaaM14
import Derived.Test.YtiihdbchchnncaaM19
section
namespace Go.Proofs.Ytiihdbchchnncaa
open Go Go.RowKit Go.Vals

section
variable {w : World} {o : Oper} {ρ : Operand → Value} {x y : Operand}
theorem ex_neq9 {s t : ByteArray} {r : Bool} (ho : o.op = .binOp .neq 9 x y 9) (hx : ρ x = .string s) (hy : ρ y = .string t) (h : (s.toList == t.toList) = !r) : (execOp ρ o).run Try.prog w = .ok (.value (.bool r)) w := by
  unfold execOp; rw [ho]; simp only [hx, hy]
  have h2 : (s.toList != t.toList) = r := by rw [bne, h, Bool.not_not]
  go_simp
theorem ex_neq4 {s t : Bool} {r : Bool} (ho : o.op = .binOp .neq 4 x y 4) (hx : ρ x = .bool s) (hy : ρ y = .bool t) (h : (s == t) = !r) : (execOp ρ o).run Try.prog w = .ok (.value (.bool r)) w := by
  unfold execOp; rw [ho]; simp only [hx, hy]
  have h2 : (s != t) = r := by rw [bne, h, Bool.not_not]
  go_simp
theorem ex_neq66 {s t : BS} {r : Bool} (ho : o.op = .binOp .neq 66 x y 66) (hx : ρ x = .agg #[.int .u64 (wdI s 0), .int .u64 (wdI s 1), .int .u64 (wdI s 2), .int .u64 (wdI s 3)]) (hy : ρ y = .agg #[.int .u64 (wdI t 0), .int .u64 (wdI t 1), .int .u64 (wdI t 2), .int .u64 (wdI t 3)]) (h : (s == t) = !r) : (execOp ρ o).run Try.prog w = .ok (.value (.bool r)) w := by
  unfold execOp; rw [ho]; simp only [hx, hy]
  have h1 := eq_sets s t w
  rw [h] at h1
  go_simp
end
/-- A symbol's cells. -/
theorem two_syms {w wr : World} {N : Nat} (a c : SymM) (h : Below N w wr) (hN : N ≤ wr.heap.size) : Blk ((wr.alloc (.cells (symC a) 68)).alloc (.cells (symC c) 68)).drew wr.heap.size 68 (symC a) ∧ Blk ((wr.alloc (.cells (symC a) 68)).alloc (.cells (symC c) 68)).drew (wr.heap.size + 1) 68 (symC c) ∧ Below N w ((wr.alloc (.cells (symC a) 68)).alloc (.cells (symC c) 68)).drew := by
  refine ⟨(Blk.new wr 68 (symC a)).alloc _, ?_, ((h.alloc hN _).alloc (by rw [World.size_alloc]; omega) _).drew⟩
  have k := Blk.new (wr.alloc (.cells (symC a) 68)) 68 (symC c)
  rw [World.size_alloc] at k
  exact k
/-- The four boxes of a call of the law's own same, and that nothing below has changed. -/
structure Four4 (w wr : World) (X0 X1 X2 X3 : Array Value) : Prop where
  b0 : Blk wr w.heap.size 27 X0
  b1 : Blk wr (w.heap.size + 1) 27 X1
  b2 : Blk wr (w.heap.size + 1 + 1) 46 X2
  b3 : Blk wr (w.heap.size + 1 + 1 + 1) 46 X3
  bl : Below w.heap.size w wr
theorem Four4.start (w : World) (X0 X1 X2 X3 : Array Value) : Four4 w ((((w.alloc (.cells X0 27)).alloc (.cells X1 27)).alloc (.cells X2 46)).alloc (.cells X3 46)) X0 X1 X2 X3 := by
  have h1 := Blk.new (w.alloc (.cells X0 27)) 27 X1
  have h2 := Blk.new ((w.alloc (.cells X0 27)).alloc (.cells X1 27)) 46 X2
  have h3 := Blk.new (((w.alloc (.cells X0 27)).alloc (.cells X1 27)).alloc (.cells X2 46)) 46 X3
  simp only [World.size_alloc] at h1 h2 h3
  exact ⟨(((Blk.new w 27 X0).alloc _).alloc _).alloc _, (h1.alloc _).alloc _, h2.alloc _, h3, ((((Below.refl _ w).alloc (Nat.le_refl _) _).alloc (by simp) _).alloc (by simp; omega) _).alloc (by simp; omega) _⟩
theorem Four4.below {w wr W : World} {X0 X1 X2 X3 : Array Value} (h : Four4 w wr X0 X1 X2 X3) (hB : Below wr.heap.size wr W) : Four4 w W X0 X1 X2 X3 :=
  ⟨h.b0.below hB h.b0.lt, h.b1.below hB h.b1.lt, h.b2.below hB h.b2.lt, h.b3.below hB h.b3.lt, h.bl.trans (hB.mono h.bl.size)⟩
theorem Four4.drew {w wr : World} {X0 X1 X2 X3 : Array Value} (h : Four4 w wr X0 X1 X2 X3) : Four4 w wr.drew X0 X1 X2 X3 := ⟨h.b0.drew, h.b1.drew, h.b2.drew, h.b3.drew, h.bl.drew⟩
theorem eqL_false {α : Type} {q : α → α → Bool} {l r : List α} (i : Nat) (x y : α) (h1 : l[i]? = some x) (h2 : r[i]? = some y) (h : q x y = false) : eqL q l r = false := eqL_no i x y h1 h2 h

set_option maxRecDepth 100000 in
set_option maxHeartbeats 16000000 in
/-- The law's own same. -/
theorem keepsame_any (g h : GramM) (x q : ProdM) (w : World) (hg : GIn w g) (hh : GIn w h) (hx : ProdIn w x) (hq : ProdIn w q) (hr1 : x.right.length ≤ 30) (hr2 : q.right.length ≤ 30)
    (hxl : ∃ k : Nat, x.left = k ∧ k < g.sorts.length) (hql : ∃ k : Nat, q.left = k ∧ k < h.sorts.length)
    (hxs : ∀ s, s ∈ x.right → (s.kind = 0 ∨ s.kind = 1) ∧ (s.kind = 1 → ∃ k : Nat, s.sort = k ∧ k < g.sorts.length)) (hqs : ∀ s, s ∈ q.right → (s.kind = 0 ∨ s.kind = 1) ∧ (s.kind = 1 → ∃ k : Nat, s.sort = k ∧ k < h.sorts.length)) :
    Calls Try.prog 28 #[gramV g, gramV h, prodV x, prodV q] w fun e w' => e = .returned (.bool (samePB g h x q)) ∧ Below w.heap.size w w' := by
  obtain ⟨j1, hj1, hjn1⟩ := hxl
  obtain ⟨j2, hj2, hjn2⟩ := hql
  obtain ⟨b1, o1, e1, hb1, _⟩ := hg.sorts j1 _ (List.getElem?_eq_getElem hjn1)
  obtain ⟨b2, o2, e2, hb2, _⟩ := hh.sorts j2 _ (List.getElem?_eq_getElem hjn2)
  obtain ⟨S1, hS1⟩ : ∃ S : Nat → ByteArray, S = fun t => g.sorts.getD t ⟨#[]⟩ := ⟨_, rfl⟩
  obtain ⟨S2, hS2⟩ : ∃ S : Nat → ByteArray, S = fun t => h.sorts.getD t ⟨#[]⟩ := ⟨_, rfl⟩
  have HS1 : Hid (∀ (t : Nat), t < g.sorts.length → ∀ W, Below w.heap.size w W → W.cell? ⟨b1, o1 + t, none⟩ = some (.string (S1 t))) := Lib.hid fun t ht W hW => by
    obtain ⟨b, o, e, hb, hc, _⟩ := hg.sorts t _ (List.getElem?_eq_getElem ht)
    rw [e1] at e; cases e
    have c := Str_at (hc.below hW hb)
    rw [Nat.mul_one] at c
    rw [c, hS1]; simp [List.getD_eq_getElem?_getD, ht]
  have HS2 : Hid (∀ (t : Nat), t < h.sorts.length → ∀ W, Below w.heap.size w W → W.cell? ⟨b2, o2 + t, none⟩ = some (.string (S2 t))) := Lib.hid fun t ht W hW => by
    obtain ⟨b, o, e, hb, hc, _⟩ := hh.sorts t _ (List.getElem?_eq_getElem ht)
    rw [e2] at e; cases e
    have c := Str_at (hc.below hW hb)
    rw [Nat.mul_one] at c
    rw [c, hS2]; simp [List.getD_eq_getElem?_getD, ht]
  have HSy : Hid (∀ a c : SymM, symPB g h a c = (a.kind == c.kind && (a.set == c.set && (!(a.kind == 1) || (S1 a.sort.toNat).toList == (S2 c.sort.toNat).toList)))) := Lib.hid fun a c => by rw [hS1, hS2]; rfl
  have HRs : Hid (samePB g h x q = (((S1 j1).toList == (S2 j2).toList && (x.cons.toList == q.cons.toList && (x.role == q.role && (((x.right.length : Nat) : Int) == ((q.right.length : Nat) : Int) && (x.frm == q.frm && (x.prefer == q.prefer && x.avoid == q.avoid)))))) && eqL (symPB g h) x.right q.right)) := Lib.hid (by
    unfold samePB headPB nameAt
    rw [hj1, hj2, hS1, hS2, Int.toNat_natCast, Int.toNat_natCast]
    have e : (((x.right.length : Nat) : Int) == ((q.right.length : Nat) : Int)) = (x.right.length == q.right.length) := by
      cases hc : (x.right.length == q.right.length) with
      | true => simp at hc; rw [hc]; simp
      | false => simp at hc; simp; omega
    rw [e])
  obtain ⟨ra1, hra1⟩ : ∃ p, p = x.ra := ⟨_, rfl⟩
  obtain ⟨ra2, hra2⟩ : ∃ p, p = q.ra := ⟨_, rfl⟩
  have HX : Hid (RowSym w ra1 x.right) := Lib.hid (by rw [hra1]; exact hx)
  have HQ : Hid (RowSym w ra2 q.right) := Lib.hid (by rw [hra2]; exact hq)
  have HXs := Lib.hid hxs
  have HQs := Lib.hid hqs
  have K0 := Lib.hid (Four4.start w #[.slice (some ⟨b1, o1, none⟩) g.sorts.length g.sc, .slice g.pa g.prods.length g.pc, .int .i64 g.start, .slice g.fa g.forbid.length g.fc, .slice g.wa g.follow.length g.wc] #[.slice (some ⟨b2, o2, none⟩) h.sorts.length h.sc, .slice h.pa h.prods.length h.pc, .int .i64 h.start, .slice h.fa h.forbid.length h.fc, .slice h.wa h.follow.length h.wc] #[.int .i64 (j1 : Nat), .slice ra1 x.right.length x.rc, .string x.cons, .int .i64 x.role, .bool x.prefer, .bool x.avoid, .int .i64 x.frm] #[.int .i64 (j2 : Nat), .slice ra2 q.right.length q.rc, .string q.cons, .int .i64 q.role, .bool q.prefer, .bool q.avoid, .int .i64 q.frm])
  have HW1 := Lib.hid (HS1.out j1 hjn1 _ K0.out.bl.drew)
  have HW2 := Lib.hid (HS2.out j2 hjn2 _ K0.out.bl.drew)
  obtain ⟨W4, hW4⟩ : ∃ W, W = (((w.alloc (.cells #[.slice (some ⟨b1, o1, none⟩) g.sorts.length g.sc, .slice g.pa g.prods.length g.pc, .int .i64 g.start, .slice g.fa g.forbid.length g.fc, .slice g.wa g.follow.length g.wc] 27)).alloc (.cells #[.slice (some ⟨b2, o2, none⟩) h.sorts.length h.sc, .slice h.pa h.prods.length h.pc, .int .i64 h.start, .slice h.fa h.forbid.length h.fc, .slice h.wa h.follow.length h.wc] 27)).alloc (.cells #[.int .i64 (j1 : Nat), .slice ra1 x.right.length x.rc, .string x.cons, .int .i64 x.role, .bool x.prefer, .bool x.avoid, .int .i64 x.frm] 46)).alloc (.cells #[.int .i64 (j2 : Nat), .slice ra2 q.right.length q.rc, .string q.cons, .int .i64 q.role, .bool q.prefer, .bool q.avoid, .int .i64 q.frm] 46) := ⟨_, rfl⟩
  rw [← hW4] at K0 HW1 HW2
  have HW4 := Lib.hid hW4
  have HC : Hid (∀ W, W = W4.drew →
      (W.cell? ⟨w.heap.size, 0, none⟩ = some (.slice (some ⟨b1, o1, none⟩) g.sorts.length g.sc) ∧ W.cell? ⟨w.heap.size + 1, 0, none⟩ = some (.slice (some ⟨b2, o2, none⟩) h.sorts.length h.sc))
      ∧ (W.cell? ⟨b1, o1 + j1, none⟩ = some (.string (S1 j1)) ∧ W.cell? ⟨b2, o2 + j2, none⟩ = some (.string (S2 j2)))
      ∧ (W.cell? ⟨w.heap.size + 1 + 1, 0, none⟩ = some (.int .i64 (j1 : Nat)) ∧ W.cell? ⟨w.heap.size + 1 + 1, 1, none⟩ = some (.slice ra1 x.right.length x.rc) ∧ W.cell? ⟨w.heap.size + 1 + 1, 2, none⟩ = some (.string x.cons) ∧ W.cell? ⟨w.heap.size + 1 + 1, 3, none⟩ = some (.int .i64 x.role) ∧ W.cell? ⟨w.heap.size + 1 + 1, 4, none⟩ = some (.bool x.prefer) ∧ W.cell? ⟨w.heap.size + 1 + 1, 5, none⟩ = some (.bool x.avoid) ∧ W.cell? ⟨w.heap.size + 1 + 1, 6, none⟩ = some (.int .i64 x.frm))
      ∧ (W.cell? ⟨w.heap.size + 1 + 1 + 1, 0, none⟩ = some (.int .i64 (j2 : Nat)) ∧ W.cell? ⟨w.heap.size + 1 + 1 + 1, 1, none⟩ = some (.slice ra2 q.right.length q.rc) ∧ W.cell? ⟨w.heap.size + 1 + 1 + 1, 2, none⟩ = some (.string q.cons) ∧ W.cell? ⟨w.heap.size + 1 + 1 + 1, 3, none⟩ = some (.int .i64 q.role) ∧ W.cell? ⟨w.heap.size + 1 + 1 + 1, 4, none⟩ = some (.bool q.prefer) ∧ W.cell? ⟨w.heap.size + 1 + 1 + 1, 5, none⟩ = some (.bool q.avoid) ∧ W.cell? ⟨w.heap.size + 1 + 1 + 1, 6, none⟩ = some (.int .i64 q.frm))) := Lib.hid (fun W hW => by
    subst hW
    exact ⟨⟨K0.out.b0.drew.cell 0, K0.out.b1.drew.cell 0⟩, ⟨HW1.out, HW2.out⟩, cells7 K0.out.b2.drew, cells7 K0.out.b3.drew⟩)
  obtain ⟨r, hr⟩ : ∃ r, r = samePB g h x q := ⟨_, rfl⟩
  have HE0 := Lib.hid hr
  unfold gramV gramC prodV prodC
  rw [e1, e2, hj1, hj2, ← hr, ← hra1, ← hra2]
  clear hS1 hS2 hg hh hx hq hxs hqs hW4 hr HW1 HW2 hj1 hj2 hra1 hra2 hb1 hb2 e1 e2
  go_enter Try.func28, Try.ntmps28
  go_wp2_with fail
  rw [← HW4.out]
  clear HW4
  cases t0 : ((S1 j1).toList == (S2 j2).toList) with
  | false =>
    have HE : Hid (r = false) := Lib.hid (by rw [HE0.out, HRs.out, t0]; rfl)
    refine wp_region_vals0 (N := fun w w' => w' = w) (S := fun W => W = W4.drew)
      [.pointer (some ⟨w.heap.size, 0, none⟩), .slice (some ⟨b1, o1, none⟩) g.sorts.length g.sc, .pointer (some ⟨w.heap.size + 1 + 1, 0, none⟩), .int .i64 (j1 : Nat), .pointer (some ⟨b1, o1 + j1, none⟩), .string (S1 j1), .pointer (some ⟨w.heap.size + 1, 0, none⟩), .slice (some ⟨b2, o2, none⟩) h.sorts.length h.sc, .pointer (some ⟨w.heap.size + 1 + 1 + 1, 0, none⟩), .int .i64 (j2 : Nat), .pointer (some ⟨b2, o2 + j2, none⟩), .string (S2 j2), .bool true, .bool true, undef, undef, undef, undef, undef, .bool true, .bool true, undef, undef, undef, undef, undef, .bool true, .bool true, undef, undef, undef, undef, undef, undef, undef, .bool true, .bool true, undef, undef, undef, undef, undef, .bool true, .bool true, undef, undef, undef, undef, undef, .bool true, .bool true, undef, undef, undef, undef, undef, .bool true]
      #[.agg #[.slice (some ⟨b1, o1, none⟩) g.sorts.length g.sc, .slice g.pa g.prods.length g.pc, .int .i64 g.start, .slice g.fa g.forbid.length g.fc, .slice g.wa g.follow.length g.wc], .agg #[.slice (some ⟨b2, o2, none⟩) h.sorts.length h.sc, .slice h.pa h.prods.length h.pc, .int .i64 h.start, .slice h.fa h.forbid.length h.fc, .slice h.wa h.follow.length h.wc], .agg #[.int .i64 (j1 : Nat), .slice ra1 x.right.length x.rc, .string x.cons, .int .i64 x.role, .bool x.prefer, .bool x.avoid, .int .i64 x.frm], .agg #[.int .i64 (j2 : Nat), .slice ra2 q.right.length q.rc, .string q.cons, .int .i64 q.role, .bool q.prefer, .bool q.avoid, .int .i64 q.frm], .pointer (some ⟨w.heap.size, 0, none⟩), .pointer (some ⟨w.heap.size + 1, 0, none⟩), .pointer (some ⟨w.heap.size + 1 + 1, 0, none⟩), .pointer (some ⟨w.heap.size + 1 + 1 + 1, 0, none⟩), .bool false, undef, undef, undef, .pointer (some ⟨w.heap.size, 0, none⟩), .slice (some ⟨b1, o1, none⟩) g.sorts.length g.sc, .pointer (some ⟨w.heap.size + 1 + 1, 0, none⟩), .int .i64 (j1 : Nat), .pointer (some ⟨b1, o1 + j1, none⟩), .string (S1 j1), .pointer (some ⟨w.heap.size + 1, 0, none⟩), .slice (some ⟨b2, o2, none⟩) h.sorts.length h.sc, .pointer (some ⟨w.heap.size + 1 + 1 + 1, 0, none⟩), .int .i64 (j2 : Nat), .pointer (some ⟨b2, o2 + j2, none⟩), .string (S2 j2), .bool true, .bool true, undef, undef, undef, undef, undef, .bool true, .bool true, undef, undef, undef, undef, undef, .bool true, .bool true, undef, undef, undef, undef, undef, undef, undef, .bool true, .bool true, undef, undef, undef, undef, undef, .bool true, .bool true, undef, undef, undef, undef, undef, .bool true, .bool true, undef, undef, undef, undef, undef, .bool true, undef, undef, undef, undef, undef, undef, undef, undef, undef, undef, undef, undef, undef, undef, undef, undef, undef, undef, undef, undef, undef, undef, undef, undef, undef, undef, undef, undef, undef, undef, undef, undef, undef, undef, undef, undef, undef, undef, undef, undef, undef, undef, undef, undef, undef, undef, undef, undef, undef]
      rfl (by kernel_rfl) (by kernel_rfl) (by kernel_rfl) (fun _ => rfl) rfl (fun _ _ h h2 => h2.trans h) ?_ ?_
    · refine Each.val 12 (.pointer (some ⟨w.heap.size, 0, none⟩)) (by kernel_rfl) (by kernel_rfl) (by kernel_rfl) (fun _ => rfl) (fun W hS _ => fa27_0 rfl (by kernel_rfl)) ?_
      refine Each.val 13 (.slice (some ⟨b1, o1, none⟩) g.sorts.length g.sc) (by kernel_rfl) (by kernel_rfl) (by kernel_rfl) (fun _ => rfl) (fun W hS _ => ld22 rfl (by kernel_rfl) ((HC.out W hS).1.1)) ?_
      refine Each.val 14 (.pointer (some ⟨w.heap.size + 1 + 1, 0, none⟩)) (by kernel_rfl) (by kernel_rfl) (by kernel_rfl) (fun _ => rfl) (fun W hS _ => fa46_0 rfl (by kernel_rfl)) ?_
      refine Each.val 15 (.int .i64 (j1 : Nat)) (by kernel_rfl) (by kernel_rfl) (by kernel_rfl) (fun _ => rfl) (fun W hS _ => ld3 rfl (by kernel_rfl) ((HC.out W hS).2.2.1.1)) ?_
      refine Each.val 16 (.pointer (some ⟨b1, o1 + j1, none⟩)) (by kernel_rfl) (by kernel_rfl) (by kernel_rfl) (fun _ => rfl) (fun W hS _ => ix22 (c := g.sc) rfl (by kernel_rfl) (by kernel_rfl) ((hjn1)) rfl) ?_
      refine Each.val 17 (.string (S1 j1)) (by kernel_rfl) (by kernel_rfl) (by kernel_rfl) (fun _ => rfl) (fun W hS _ => ld9 rfl (by kernel_rfl) ((HC.out W hS).2.1.1)) ?_
      refine Each.val 18 (.pointer (some ⟨w.heap.size + 1, 0, none⟩)) (by kernel_rfl) (by kernel_rfl) (by kernel_rfl) (fun _ => rfl) (fun W hS _ => fa27_0 rfl (by kernel_rfl)) ?_
      refine Each.val 19 (.slice (some ⟨b2, o2, none⟩) h.sorts.length h.sc) (by kernel_rfl) (by kernel_rfl) (by kernel_rfl) (fun _ => rfl) (fun W hS _ => ld22 rfl (by kernel_rfl) ((HC.out W hS).1.2)) ?_
      refine Each.val 20 (.pointer (some ⟨w.heap.size + 1 + 1 + 1, 0, none⟩)) (by kernel_rfl) (by kernel_rfl) (by kernel_rfl) (fun _ => rfl) (fun W hS _ => fa46_0 rfl (by kernel_rfl)) ?_
      refine Each.val 21 (.int .i64 (j2 : Nat)) (by kernel_rfl) (by kernel_rfl) (by kernel_rfl) (fun _ => rfl) (fun W hS _ => ld3 rfl (by kernel_rfl) ((HC.out W hS).2.2.2.1)) ?_
      refine Each.val 22 (.pointer (some ⟨b2, o2 + j2, none⟩)) (by kernel_rfl) (by kernel_rfl) (by kernel_rfl) (fun _ => rfl) (fun W hS _ => ix22 (c := h.sc) rfl (by kernel_rfl) (by kernel_rfl) ((hjn2)) rfl) ?_
      refine Each.val 23 (.string (S2 j2)) (by kernel_rfl) (by kernel_rfl) (by kernel_rfl) (fun _ => rfl) (fun W hS _ => ld9 rfl (by kernel_rfl) ((HC.out W hS).2.1.2)) ?_
      refine Each.val 24 (.bool true) (by kernel_rfl) (by kernel_rfl) (by kernel_rfl) (fun _ => rfl) (fun W hS _ => ex_neq9 rfl (by kernel_rfl) (by kernel_rfl) (t0)) ?_
      refine Each.val 25 (.bool true) (by kernel_rfl) (by kernel_rfl) (by kernel_rfl) (fun _ => rfl) (fun _ _ _ => by kernel_rfl) ?_
      refine Each.off 26 (by kernel_rfl) (by kernel_rfl) (by kernel_rfl) ?_
      refine Each.off 27 (by kernel_rfl) (by kernel_rfl) (by kernel_rfl) ?_
      refine Each.off 28 (by kernel_rfl) (by kernel_rfl) (by kernel_rfl) ?_
      refine Each.off 29 (by kernel_rfl) (by kernel_rfl) (by kernel_rfl) ?_
      refine Each.off 30 (by kernel_rfl) (by kernel_rfl) (by kernel_rfl) ?_
      refine Each.val 31 (.bool true) (by kernel_rfl) (by kernel_rfl) (by kernel_rfl) (fun _ => rfl) (fun _ _ _ => by kernel_rfl) ?_
      refine Each.val 32 (.bool true) (by kernel_rfl) (by kernel_rfl) (by kernel_rfl) (fun _ => rfl) (fun _ _ _ => by kernel_rfl) ?_
      refine Each.off 33 (by kernel_rfl) (by kernel_rfl) (by kernel_rfl) ?_
      refine Each.off 34 (by kernel_rfl) (by kernel_rfl) (by kernel_rfl) ?_
      refine Each.off 35 (by kernel_rfl) (by kernel_rfl) (by kernel_rfl) ?_
      refine Each.off 36 (by kernel_rfl) (by kernel_rfl) (by kernel_rfl) ?_
      refine Each.off 37 (by kernel_rfl) (by kernel_rfl) (by kernel_rfl) ?_
      refine Each.val 38 (.bool true) (by kernel_rfl) (by kernel_rfl) (by kernel_rfl) (fun _ => rfl) (fun _ _ _ => by kernel_rfl) ?_
      refine Each.val 39 (.bool true) (by kernel_rfl) (by kernel_rfl) (by kernel_rfl) (fun _ => rfl) (fun _ _ _ => by kernel_rfl) ?_
      refine Each.off 40 (by kernel_rfl) (by kernel_rfl) (by kernel_rfl) ?_
      refine Each.off 41 (by kernel_rfl) (by kernel_rfl) (by kernel_rfl) ?_
      refine Each.off 42 (by kernel_rfl) (by kernel_rfl) (by kernel_rfl) ?_
      refine Each.off 43 (by kernel_rfl) (by kernel_rfl) (by kernel_rfl) ?_
      refine Each.off 44 (by kernel_rfl) (by kernel_rfl) (by kernel_rfl) ?_
      refine Each.off 45 (by kernel_rfl) (by kernel_rfl) (by kernel_rfl) ?_
      refine Each.off 46 (by kernel_rfl) (by kernel_rfl) (by kernel_rfl) ?_
      refine Each.val 47 (.bool true) (by kernel_rfl) (by kernel_rfl) (by kernel_rfl) (fun _ => rfl) (fun _ _ _ => by kernel_rfl) ?_
      refine Each.val 48 (.bool true) (by kernel_rfl) (by kernel_rfl) (by kernel_rfl) (fun _ => rfl) (fun _ _ _ => by kernel_rfl) ?_
      refine Each.off 49 (by kernel_rfl) (by kernel_rfl) (by kernel_rfl) ?_
      refine Each.off 50 (by kernel_rfl) (by kernel_rfl) (by kernel_rfl) ?_
      refine Each.off 51 (by kernel_rfl) (by kernel_rfl) (by kernel_rfl) ?_
      refine Each.off 52 (by kernel_rfl) (by kernel_rfl) (by kernel_rfl) ?_
      refine Each.off 53 (by kernel_rfl) (by kernel_rfl) (by kernel_rfl) ?_
      refine Each.val 54 (.bool true) (by kernel_rfl) (by kernel_rfl) (by kernel_rfl) (fun _ => rfl) (fun _ _ _ => by kernel_rfl) ?_
      refine Each.val 55 (.bool true) (by kernel_rfl) (by kernel_rfl) (by kernel_rfl) (fun _ => rfl) (fun _ _ _ => by kernel_rfl) ?_
      refine Each.off 56 (by kernel_rfl) (by kernel_rfl) (by kernel_rfl) ?_
      refine Each.off 57 (by kernel_rfl) (by kernel_rfl) (by kernel_rfl) ?_
      refine Each.off 58 (by kernel_rfl) (by kernel_rfl) (by kernel_rfl) ?_
      refine Each.off 59 (by kernel_rfl) (by kernel_rfl) (by kernel_rfl) ?_
      refine Each.off 60 (by kernel_rfl) (by kernel_rfl) (by kernel_rfl) ?_
      refine Each.val 61 (.bool true) (by kernel_rfl) (by kernel_rfl) (by kernel_rfl) (fun _ => rfl) (fun _ _ _ => by kernel_rfl) ?_
      refine Each.val 62 (.bool true) (by kernel_rfl) (by kernel_rfl) (by kernel_rfl) (fun _ => rfl) (fun _ _ _ => by kernel_rfl) ?_
      refine Each.off 63 (by kernel_rfl) (by kernel_rfl) (by kernel_rfl) ?_
      refine Each.off 64 (by kernel_rfl) (by kernel_rfl) (by kernel_rfl) ?_
      refine Each.off 65 (by kernel_rfl) (by kernel_rfl) (by kernel_rfl) ?_
      refine Each.off 66 (by kernel_rfl) (by kernel_rfl) (by kernel_rfl) ?_
      refine Each.off 67 (by kernel_rfl) (by kernel_rfl) (by kernel_rfl) ?_
      refine Each.val 68 (.bool true) (by kernel_rfl) (by kernel_rfl) (by kernel_rfl) (fun _ => rfl) (fun _ _ _ => by kernel_rfl) ?_
      exact trivial
    · intro w5 hS5
      obtain rfl : w5 = W4.drew := hS5
      go_wp2
      go_ret
      exact ⟨by rw [HE.out]; try rfl, K0.out.bl.drew⟩
  | true =>
    cases t1 : (x.cons.toList == q.cons.toList) with
    | false =>
      have HE : Hid (r = false) := Lib.hid (by rw [HE0.out, HRs.out, t0, t1]; rfl)
      refine wp_region_vals0 (N := fun w w' => w' = w) (S := fun W => W = W4.drew)
        [.pointer (some ⟨w.heap.size, 0, none⟩), .slice (some ⟨b1, o1, none⟩) g.sorts.length g.sc, .pointer (some ⟨w.heap.size + 1 + 1, 0, none⟩), .int .i64 (j1 : Nat), .pointer (some ⟨b1, o1 + j1, none⟩), .string (S1 j1), .pointer (some ⟨w.heap.size + 1, 0, none⟩), .slice (some ⟨b2, o2, none⟩) h.sorts.length h.sc, .pointer (some ⟨w.heap.size + 1 + 1 + 1, 0, none⟩), .int .i64 (j2 : Nat), .pointer (some ⟨b2, o2 + j2, none⟩), .string (S2 j2), .bool false, .bool false, .pointer (some ⟨w.heap.size + 1 + 1, 2, none⟩), .string x.cons, .pointer (some ⟨w.heap.size + 1 + 1 + 1, 2, none⟩), .string q.cons, .bool true, .bool true, .bool true, undef, undef, undef, undef, undef, .bool true, .bool true, undef, undef, undef, undef, undef, undef, undef, .bool true, .bool true, undef, undef, undef, undef, undef, .bool true, .bool true, undef, undef, undef, undef, undef, .bool true, .bool true, undef, undef, undef, undef, undef, .bool true]
        #[.agg #[.slice (some ⟨b1, o1, none⟩) g.sorts.length g.sc, .slice g.pa g.prods.length g.pc, .int .i64 g.start, .slice g.fa g.forbid.length g.fc, .slice g.wa g.follow.length g.wc], .agg #[.slice (some ⟨b2, o2, none⟩) h.sorts.length h.sc, .slice h.pa h.prods.length h.pc, .int .i64 h.start, .slice h.fa h.forbid.length h.fc, .slice h.wa h.follow.length h.wc], .agg #[.int .i64 (j1 : Nat), .slice ra1 x.right.length x.rc, .string x.cons, .int .i64 x.role, .bool x.prefer, .bool x.avoid, .int .i64 x.frm], .agg #[.int .i64 (j2 : Nat), .slice ra2 q.right.length q.rc, .string q.cons, .int .i64 q.role, .bool q.prefer, .bool q.avoid, .int .i64 q.frm], .pointer (some ⟨w.heap.size, 0, none⟩), .pointer (some ⟨w.heap.size + 1, 0, none⟩), .pointer (some ⟨w.heap.size + 1 + 1, 0, none⟩), .pointer (some ⟨w.heap.size + 1 + 1 + 1, 0, none⟩), .bool false, undef, undef, undef, .pointer (some ⟨w.heap.size, 0, none⟩), .slice (some ⟨b1, o1, none⟩) g.sorts.length g.sc, .pointer (some ⟨w.heap.size + 1 + 1, 0, none⟩), .int .i64 (j1 : Nat), .pointer (some ⟨b1, o1 + j1, none⟩), .string (S1 j1), .pointer (some ⟨w.heap.size + 1, 0, none⟩), .slice (some ⟨b2, o2, none⟩) h.sorts.length h.sc, .pointer (some ⟨w.heap.size + 1 + 1 + 1, 0, none⟩), .int .i64 (j2 : Nat), .pointer (some ⟨b2, o2 + j2, none⟩), .string (S2 j2), .bool false, .bool false, .pointer (some ⟨w.heap.size + 1 + 1, 2, none⟩), .string x.cons, .pointer (some ⟨w.heap.size + 1 + 1 + 1, 2, none⟩), .string q.cons, .bool true, .bool true, .bool true, undef, undef, undef, undef, undef, .bool true, .bool true, undef, undef, undef, undef, undef, undef, undef, .bool true, .bool true, undef, undef, undef, undef, undef, .bool true, .bool true, undef, undef, undef, undef, undef, .bool true, .bool true, undef, undef, undef, undef, undef, .bool true, undef, undef, undef, undef, undef, undef, undef, undef, undef, undef, undef, undef, undef, undef, undef, undef, undef, undef, undef, undef, undef, undef, undef, undef, undef, undef, undef, undef, undef, undef, undef, undef, undef, undef, undef, undef, undef, undef, undef, undef, undef, undef, undef, undef, undef, undef, undef, undef, undef]
        rfl (by kernel_rfl) (by kernel_rfl) (by kernel_rfl) (fun _ => rfl) rfl (fun _ _ h h2 => h2.trans h) ?_ ?_
      · refine Each.val 12 (.pointer (some ⟨w.heap.size, 0, none⟩)) (by kernel_rfl) (by kernel_rfl) (by kernel_rfl) (fun _ => rfl) (fun W hS _ => fa27_0 rfl (by kernel_rfl)) ?_
        refine Each.val 13 (.slice (some ⟨b1, o1, none⟩) g.sorts.length g.sc) (by kernel_rfl) (by kernel_rfl) (by kernel_rfl) (fun _ => rfl) (fun W hS _ => ld22 rfl (by kernel_rfl) ((HC.out W hS).1.1)) ?_
        refine Each.val 14 (.pointer (some ⟨w.heap.size + 1 + 1, 0, none⟩)) (by kernel_rfl) (by kernel_rfl) (by kernel_rfl) (fun _ => rfl) (fun W hS _ => fa46_0 rfl (by kernel_rfl)) ?_
        refine Each.val 15 (.int .i64 (j1 : Nat)) (by kernel_rfl) (by kernel_rfl) (by kernel_rfl) (fun _ => rfl) (fun W hS _ => ld3 rfl (by kernel_rfl) ((HC.out W hS).2.2.1.1)) ?_
        refine Each.val 16 (.pointer (some ⟨b1, o1 + j1, none⟩)) (by kernel_rfl) (by kernel_rfl) (by kernel_rfl) (fun _ => rfl) (fun W hS _ => ix22 (c := g.sc) rfl (by kernel_rfl) (by kernel_rfl) ((hjn1)) rfl) ?_
        refine Each.val 17 (.string (S1 j1)) (by kernel_rfl) (by kernel_rfl) (by kernel_rfl) (fun _ => rfl) (fun W hS _ => ld9 rfl (by kernel_rfl) ((HC.out W hS).2.1.1)) ?_
        refine Each.val 18 (.pointer (some ⟨w.heap.size + 1, 0, none⟩)) (by kernel_rfl) (by kernel_rfl) (by kernel_rfl) (fun _ => rfl) (fun W hS _ => fa27_0 rfl (by kernel_rfl)) ?_
        refine Each.val 19 (.slice (some ⟨b2, o2, none⟩) h.sorts.length h.sc) (by kernel_rfl) (by kernel_rfl) (by kernel_rfl) (fun _ => rfl) (fun W hS _ => ld22 rfl (by kernel_rfl) ((HC.out W hS).1.2)) ?_
        refine Each.val 20 (.pointer (some ⟨w.heap.size + 1 + 1 + 1, 0, none⟩)) (by kernel_rfl) (by kernel_rfl) (by kernel_rfl) (fun _ => rfl) (fun W hS _ => fa46_0 rfl (by kernel_rfl)) ?_
        refine Each.val 21 (.int .i64 (j2 : Nat)) (by kernel_rfl) (by kernel_rfl) (by kernel_rfl) (fun _ => rfl) (fun W hS _ => ld3 rfl (by kernel_rfl) ((HC.out W hS).2.2.2.1)) ?_
        refine Each.val 22 (.pointer (some ⟨b2, o2 + j2, none⟩)) (by kernel_rfl) (by kernel_rfl) (by kernel_rfl) (fun _ => rfl) (fun W hS _ => ix22 (c := h.sc) rfl (by kernel_rfl) (by kernel_rfl) ((hjn2)) rfl) ?_
        refine Each.val 23 (.string (S2 j2)) (by kernel_rfl) (by kernel_rfl) (by kernel_rfl) (fun _ => rfl) (fun W hS _ => ld9 rfl (by kernel_rfl) ((HC.out W hS).2.1.2)) ?_
        refine Each.val 24 (.bool false) (by kernel_rfl) (by kernel_rfl) (by kernel_rfl) (fun _ => rfl) (fun W hS _ => ex_neq9 rfl (by kernel_rfl) (by kernel_rfl) (t0)) ?_
        refine Each.val 25 (.bool false) (by kernel_rfl) (by kernel_rfl) (by kernel_rfl) (fun _ => rfl) (fun _ _ _ => by kernel_rfl) ?_
        refine Each.val 26 (.pointer (some ⟨w.heap.size + 1 + 1, 2, none⟩)) (by kernel_rfl) (by kernel_rfl) (by kernel_rfl) (fun _ => rfl) (fun W hS _ => fa46_2 rfl (by kernel_rfl)) ?_
        refine Each.val 27 (.string x.cons) (by kernel_rfl) (by kernel_rfl) (by kernel_rfl) (fun _ => rfl) (fun W hS _ => ld9 rfl (by kernel_rfl) ((HC.out W hS).2.2.1.2.2.1)) ?_
        refine Each.val 28 (.pointer (some ⟨w.heap.size + 1 + 1 + 1, 2, none⟩)) (by kernel_rfl) (by kernel_rfl) (by kernel_rfl) (fun _ => rfl) (fun W hS _ => fa46_2 rfl (by kernel_rfl)) ?_
        refine Each.val 29 (.string q.cons) (by kernel_rfl) (by kernel_rfl) (by kernel_rfl) (fun _ => rfl) (fun W hS _ => ld9 rfl (by kernel_rfl) ((HC.out W hS).2.2.2.2.2.1)) ?_
        refine Each.val 30 (.bool true) (by kernel_rfl) (by kernel_rfl) (by kernel_rfl) (fun _ => rfl) (fun W hS _ => ex_neq9 rfl (by kernel_rfl) (by kernel_rfl) (t1)) ?_
        refine Each.val 31 (.bool true) (by kernel_rfl) (by kernel_rfl) (by kernel_rfl) (fun _ => rfl) (fun _ _ _ => by kernel_rfl) ?_
        refine Each.val 32 (.bool true) (by kernel_rfl) (by kernel_rfl) (by kernel_rfl) (fun _ => rfl) (fun _ _ _ => by kernel_rfl) ?_
        refine Each.off 33 (by kernel_rfl) (by kernel_rfl) (by kernel_rfl) ?_
        refine Each.off 34 (by kernel_rfl) (by kernel_rfl) (by kernel_rfl) ?_
        refine Each.off 35 (by kernel_rfl) (by kernel_rfl) (by kernel_rfl) ?_
        refine Each.off 36 (by kernel_rfl) (by kernel_rfl) (by kernel_rfl) ?_
        refine Each.off 37 (by kernel_rfl) (by kernel_rfl) (by kernel_rfl) ?_
        refine Each.val 38 (.bool true) (by kernel_rfl) (by kernel_rfl) (by kernel_rfl) (fun _ => rfl) (fun _ _ _ => by kernel_rfl) ?_
        refine Each.val 39 (.bool true) (by kernel_rfl) (by kernel_rfl) (by kernel_rfl) (fun _ => rfl) (fun _ _ _ => by kernel_rfl) ?_
        refine Each.off 40 (by kernel_rfl) (by kernel_rfl) (by kernel_rfl) ?_
        refine Each.off 41 (by kernel_rfl) (by kernel_rfl) (by kernel_rfl) ?_
        refine Each.off 42 (by kernel_rfl) (by kernel_rfl) (by kernel_rfl) ?_
        refine Each.off 43 (by kernel_rfl) (by kernel_rfl) (by kernel_rfl) ?_
        refine Each.off 44 (by kernel_rfl) (by kernel_rfl) (by kernel_rfl) ?_
        refine Each.off 45 (by kernel_rfl) (by kernel_rfl) (by kernel_rfl) ?_
        refine Each.off 46 (by kernel_rfl) (by kernel_rfl) (by kernel_rfl) ?_
        refine Each.val 47 (.bool true) (by kernel_rfl) (by kernel_rfl) (by kernel_rfl) (fun _ => rfl) (fun _ _ _ => by kernel_rfl) ?_
        refine Each.val 48 (.bool true) (by kernel_rfl) (by kernel_rfl) (by kernel_rfl) (fun _ => rfl) (fun _ _ _ => by kernel_rfl) ?_
        refine Each.off 49 (by kernel_rfl) (by kernel_rfl) (by kernel_rfl) ?_
        refine Each.off 50 (by kernel_rfl) (by kernel_rfl) (by kernel_rfl) ?_
        refine Each.off 51 (by kernel_rfl) (by kernel_rfl) (by kernel_rfl) ?_
        refine Each.off 52 (by kernel_rfl) (by kernel_rfl) (by kernel_rfl) ?_
        refine Each.off 53 (by kernel_rfl) (by kernel_rfl) (by kernel_rfl) ?_
        refine Each.val 54 (.bool true) (by kernel_rfl) (by kernel_rfl) (by kernel_rfl) (fun _ => rfl) (fun _ _ _ => by kernel_rfl) ?_
        refine Each.val 55 (.bool true) (by kernel_rfl) (by kernel_rfl) (by kernel_rfl) (fun _ => rfl) (fun _ _ _ => by kernel_rfl) ?_
        refine Each.off 56 (by kernel_rfl) (by kernel_rfl) (by kernel_rfl) ?_
        refine Each.off 57 (by kernel_rfl) (by kernel_rfl) (by kernel_rfl) ?_
        refine Each.off 58 (by kernel_rfl) (by kernel_rfl) (by kernel_rfl) ?_
        refine Each.off 59 (by kernel_rfl) (by kernel_rfl) (by kernel_rfl) ?_
        refine Each.off 60 (by kernel_rfl) (by kernel_rfl) (by kernel_rfl) ?_
        refine Each.val 61 (.bool true) (by kernel_rfl) (by kernel_rfl) (by kernel_rfl) (fun _ => rfl) (fun _ _ _ => by kernel_rfl) ?_
        refine Each.val 62 (.bool true) (by kernel_rfl) (by kernel_rfl) (by kernel_rfl) (fun _ => rfl) (fun _ _ _ => by kernel_rfl) ?_
        refine Each.off 63 (by kernel_rfl) (by kernel_rfl) (by kernel_rfl) ?_
        refine Each.off 64 (by kernel_rfl) (by kernel_rfl) (by kernel_rfl) ?_
        refine Each.off 65 (by kernel_rfl) (by kernel_rfl) (by kernel_rfl) ?_
        refine Each.off 66 (by kernel_rfl) (by kernel_rfl) (by kernel_rfl) ?_
        refine Each.off 67 (by kernel_rfl) (by kernel_rfl) (by kernel_rfl) ?_
        refine Each.val 68 (.bool true) (by kernel_rfl) (by kernel_rfl) (by kernel_rfl) (fun _ => rfl) (fun _ _ _ => by kernel_rfl) ?_
        exact trivial
      · intro w5 hS5
        obtain rfl : w5 = W4.drew := hS5
        go_wp2
        go_ret
        exact ⟨by rw [HE.out]; try rfl, K0.out.bl.drew⟩
    | true =>
      cases t2 : (x.role == q.role) with
      | false =>
        have HE : Hid (r = false) := Lib.hid (by rw [HE0.out, HRs.out, t0, t1, t2]; rfl)
        refine wp_region_vals0 (N := fun w w' => w' = w) (S := fun W => W = W4.drew)
          [.pointer (some ⟨w.heap.size, 0, none⟩), .slice (some ⟨b1, o1, none⟩) g.sorts.length g.sc, .pointer (some ⟨w.heap.size + 1 + 1, 0, none⟩), .int .i64 (j1 : Nat), .pointer (some ⟨b1, o1 + j1, none⟩), .string (S1 j1), .pointer (some ⟨w.heap.size + 1, 0, none⟩), .slice (some ⟨b2, o2, none⟩) h.sorts.length h.sc, .pointer (some ⟨w.heap.size + 1 + 1 + 1, 0, none⟩), .int .i64 (j2 : Nat), .pointer (some ⟨b2, o2 + j2, none⟩), .string (S2 j2), .bool false, .bool false, .pointer (some ⟨w.heap.size + 1 + 1, 2, none⟩), .string x.cons, .pointer (some ⟨w.heap.size + 1 + 1 + 1, 2, none⟩), .string q.cons, .bool false, .bool false, .bool false, .pointer (some ⟨w.heap.size + 1 + 1, 3, none⟩), .int .i64 x.role, .pointer (some ⟨w.heap.size + 1 + 1 + 1, 3, none⟩), .int .i64 q.role, .bool true, .bool true, .bool true, undef, undef, undef, undef, undef, undef, undef, .bool true, .bool true, undef, undef, undef, undef, undef, .bool true, .bool true, undef, undef, undef, undef, undef, .bool true, .bool true, undef, undef, undef, undef, undef, .bool true]
          #[.agg #[.slice (some ⟨b1, o1, none⟩) g.sorts.length g.sc, .slice g.pa g.prods.length g.pc, .int .i64 g.start, .slice g.fa g.forbid.length g.fc, .slice g.wa g.follow.length g.wc], .agg #[.slice (some ⟨b2, o2, none⟩) h.sorts.length h.sc, .slice h.pa h.prods.length h.pc, .int .i64 h.start, .slice h.fa h.forbid.length h.fc, .slice h.wa h.follow.length h.wc], .agg #[.int .i64 (j1 : Nat), .slice ra1 x.right.length x.rc, .string x.cons, .int .i64 x.role, .bool x.prefer, .bool x.avoid, .int .i64 x.frm], .agg #[.int .i64 (j2 : Nat), .slice ra2 q.right.length q.rc, .string q.cons, .int .i64 q.role, .bool q.prefer, .bool q.avoid, .int .i64 q.frm], .pointer (some ⟨w.heap.size, 0, none⟩), .pointer (some ⟨w.heap.size + 1, 0, none⟩), .pointer (some ⟨w.heap.size + 1 + 1, 0, none⟩), .pointer (some ⟨w.heap.size + 1 + 1 + 1, 0, none⟩), .bool false, undef, undef, undef, .pointer (some ⟨w.heap.size, 0, none⟩), .slice (some ⟨b1, o1, none⟩) g.sorts.length g.sc, .pointer (some ⟨w.heap.size + 1 + 1, 0, none⟩), .int .i64 (j1 : Nat), .pointer (some ⟨b1, o1 + j1, none⟩), .string (S1 j1), .pointer (some ⟨w.heap.size + 1, 0, none⟩), .slice (some ⟨b2, o2, none⟩) h.sorts.length h.sc, .pointer (some ⟨w.heap.size + 1 + 1 + 1, 0, none⟩), .int .i64 (j2 : Nat), .pointer (some ⟨b2, o2 + j2, none⟩), .string (S2 j2), .bool false, .bool false, .pointer (some ⟨w.heap.size + 1 + 1, 2, none⟩), .string x.cons, .pointer (some ⟨w.heap.size + 1 + 1 + 1, 2, none⟩), .string q.cons, .bool false, .bool false, .bool false, .pointer (some ⟨w.heap.size + 1 + 1, 3, none⟩), .int .i64 x.role, .pointer (some ⟨w.heap.size + 1 + 1 + 1, 3, none⟩), .int .i64 q.role, .bool true, .bool true, .bool true, undef, undef, undef, undef, undef, undef, undef, .bool true, .bool true, undef, undef, undef, undef, undef, .bool true, .bool true, undef, undef, undef, undef, undef, .bool true, .bool true, undef, undef, undef, undef, undef, .bool true, undef, undef, undef, undef, undef, undef, undef, undef, undef, undef, undef, undef, undef, undef, undef, undef, undef, undef, undef, undef, undef, undef, undef, undef, undef, undef, undef, undef, undef, undef, undef, undef, undef, undef, undef, undef, undef, undef, undef, undef, undef, undef, undef, undef, undef, undef, undef, undef, undef]
          rfl (by kernel_rfl) (by kernel_rfl) (by kernel_rfl) (fun _ => rfl) rfl (fun _ _ h h2 => h2.trans h) ?_ ?_
        · refine Each.val 12 (.pointer (some ⟨w.heap.size, 0, none⟩)) (by kernel_rfl) (by kernel_rfl) (by kernel_rfl) (fun _ => rfl) (fun W hS _ => fa27_0 rfl (by kernel_rfl)) ?_
          refine Each.val 13 (.slice (some ⟨b1, o1, none⟩) g.sorts.length g.sc) (by kernel_rfl) (by kernel_rfl) (by kernel_rfl) (fun _ => rfl) (fun W hS _ => ld22 rfl (by kernel_rfl) ((HC.out W hS).1.1)) ?_
          refine Each.val 14 (.pointer (some ⟨w.heap.size + 1 + 1, 0, none⟩)) (by kernel_rfl) (by kernel_rfl) (by kernel_rfl) (fun _ => rfl) (fun W hS _ => fa46_0 rfl (by kernel_rfl)) ?_
          refine Each.val 15 (.int .i64 (j1 : Nat)) (by kernel_rfl) (by kernel_rfl) (by kernel_rfl) (fun _ => rfl) (fun W hS _ => ld3 rfl (by kernel_rfl) ((HC.out W hS).2.2.1.1)) ?_
          refine Each.val 16 (.pointer (some ⟨b1, o1 + j1, none⟩)) (by kernel_rfl) (by kernel_rfl) (by kernel_rfl) (fun _ => rfl) (fun W hS _ => ix22 (c := g.sc) rfl (by kernel_rfl) (by kernel_rfl) ((hjn1)) rfl) ?_
          refine Each.val 17 (.string (S1 j1)) (by kernel_rfl) (by kernel_rfl) (by kernel_rfl) (fun _ => rfl) (fun W hS _ => ld9 rfl (by kernel_rfl) ((HC.out W hS).2.1.1)) ?_
          refine Each.val 18 (.pointer (some ⟨w.heap.size + 1, 0, none⟩)) (by kernel_rfl) (by kernel_rfl) (by kernel_rfl) (fun _ => rfl) (fun W hS _ => fa27_0 rfl (by kernel_rfl)) ?_
          refine Each.val 19 (.slice (some ⟨b2, o2, none⟩) h.sorts.length h.sc) (by kernel_rfl) (by kernel_rfl) (by kernel_rfl) (fun _ => rfl) (fun W hS _ => ld22 rfl (by kernel_rfl) ((HC.out W hS).1.2)) ?_
          refine Each.val 20 (.pointer (some ⟨w.heap.size + 1 + 1 + 1, 0, none⟩)) (by kernel_rfl) (by kernel_rfl) (by kernel_rfl) (fun _ => rfl) (fun W hS _ => fa46_0 rfl (by kernel_rfl)) ?_
          refine Each.val 21 (.int .i64 (j2 : Nat)) (by kernel_rfl) (by kernel_rfl) (by kernel_rfl) (fun _ => rfl) (fun W hS _ => ld3 rfl (by kernel_rfl) ((HC.out W hS).2.2.2.1)) ?_
          refine Each.val 22 (.pointer (some ⟨b2, o2 + j2, none⟩)) (by kernel_rfl) (by kernel_rfl) (by kernel_rfl) (fun _ => rfl) (fun W hS _ => ix22 (c := h.sc) rfl (by kernel_rfl) (by kernel_rfl) ((hjn2)) rfl) ?_
          refine Each.val 23 (.string (S2 j2)) (by kernel_rfl) (by kernel_rfl) (by kernel_rfl) (fun _ => rfl) (fun W hS _ => ld9 rfl (by kernel_rfl) ((HC.out W hS).2.1.2)) ?_
          refine Each.val 24 (.bool false) (by kernel_rfl) (by kernel_rfl) (by kernel_rfl) (fun _ => rfl) (fun W hS _ => ex_neq9 rfl (by kernel_rfl) (by kernel_rfl) (t0)) ?_
          refine Each.val 25 (.bool false) (by kernel_rfl) (by kernel_rfl) (by kernel_rfl) (fun _ => rfl) (fun _ _ _ => by kernel_rfl) ?_
          refine Each.val 26 (.pointer (some ⟨w.heap.size + 1 + 1, 2, none⟩)) (by kernel_rfl) (by kernel_rfl) (by kernel_rfl) (fun _ => rfl) (fun W hS _ => fa46_2 rfl (by kernel_rfl)) ?_
          refine Each.val 27 (.string x.cons) (by kernel_rfl) (by kernel_rfl) (by kernel_rfl) (fun _ => rfl) (fun W hS _ => ld9 rfl (by kernel_rfl) ((HC.out W hS).2.2.1.2.2.1)) ?_
          refine Each.val 28 (.pointer (some ⟨w.heap.size + 1 + 1 + 1, 2, none⟩)) (by kernel_rfl) (by kernel_rfl) (by kernel_rfl) (fun _ => rfl) (fun W hS _ => fa46_2 rfl (by kernel_rfl)) ?_
          refine Each.val 29 (.string q.cons) (by kernel_rfl) (by kernel_rfl) (by kernel_rfl) (fun _ => rfl) (fun W hS _ => ld9 rfl (by kernel_rfl) ((HC.out W hS).2.2.2.2.2.1)) ?_
          refine Each.val 30 (.bool false) (by kernel_rfl) (by kernel_rfl) (by kernel_rfl) (fun _ => rfl) (fun W hS _ => ex_neq9 rfl (by kernel_rfl) (by kernel_rfl) (t1)) ?_
          refine Each.val 31 (.bool false) (by kernel_rfl) (by kernel_rfl) (by kernel_rfl) (fun _ => rfl) (fun _ _ _ => by kernel_rfl) ?_
          refine Each.val 32 (.bool false) (by kernel_rfl) (by kernel_rfl) (by kernel_rfl) (fun _ => rfl) (fun _ _ _ => by kernel_rfl) ?_
          refine Each.val 33 (.pointer (some ⟨w.heap.size + 1 + 1, 3, none⟩)) (by kernel_rfl) (by kernel_rfl) (by kernel_rfl) (fun _ => rfl) (fun W hS _ => fa46_3 rfl (by kernel_rfl)) ?_
          refine Each.val 34 (.int .i64 x.role) (by kernel_rfl) (by kernel_rfl) (by kernel_rfl) (fun _ => rfl) (fun W hS _ => ld44 rfl (by kernel_rfl) ((HC.out W hS).2.2.1.2.2.2.1)) ?_
          refine Each.val 35 (.pointer (some ⟨w.heap.size + 1 + 1 + 1, 3, none⟩)) (by kernel_rfl) (by kernel_rfl) (by kernel_rfl) (fun _ => rfl) (fun W hS _ => fa46_3 rfl (by kernel_rfl)) ?_
          refine Each.val 36 (.int .i64 q.role) (by kernel_rfl) (by kernel_rfl) (by kernel_rfl) (fun _ => rfl) (fun W hS _ => ld44 rfl (by kernel_rfl) ((HC.out W hS).2.2.2.2.2.2.1)) ?_
          refine Each.val 37 (.bool true) (by kernel_rfl) (by kernel_rfl) (by kernel_rfl) (fun _ => rfl) (fun W hS _ => ex_neq44 rfl (by kernel_rfl) (by kernel_rfl) (t2)) ?_
          refine Each.val 38 (.bool true) (by kernel_rfl) (by kernel_rfl) (by kernel_rfl) (fun _ => rfl) (fun _ _ _ => by kernel_rfl) ?_
          refine Each.val 39 (.bool true) (by kernel_rfl) (by kernel_rfl) (by kernel_rfl) (fun _ => rfl) (fun _ _ _ => by kernel_rfl) ?_
          refine Each.off 40 (by kernel_rfl) (by kernel_rfl) (by kernel_rfl) ?_
          refine Each.off 41 (by kernel_rfl) (by kernel_rfl) (by kernel_rfl) ?_
          refine Each.off 42 (by kernel_rfl) (by kernel_rfl) (by kernel_rfl) ?_
          refine Each.off 43 (by kernel_rfl) (by kernel_rfl) (by kernel_rfl) ?_
          refine Each.off 44 (by kernel_rfl) (by kernel_rfl) (by kernel_rfl) ?_
          refine Each.off 45 (by kernel_rfl) (by kernel_rfl) (by kernel_rfl) ?_
          refine Each.off 46 (by kernel_rfl) (by kernel_rfl) (by kernel_rfl) ?_
          refine Each.val 47 (.bool true) (by kernel_rfl) (by kernel_rfl) (by kernel_rfl) (fun _ => rfl) (fun _ _ _ => by kernel_rfl) ?_
          refine Each.val 48 (.bool true) (by kernel_rfl) (by kernel_rfl) (by kernel_rfl) (fun _ => rfl) (fun _ _ _ => by kernel_rfl) ?_
          refine Each.off 49 (by kernel_rfl) (by kernel_rfl) (by kernel_rfl) ?_
          refine Each.off 50 (by kernel_rfl) (by kernel_rfl) (by kernel_rfl) ?_
          refine Each.off 51 (by kernel_rfl) (by kernel_rfl) (by kernel_rfl) ?_
          refine Each.off 52 (by kernel_rfl) (by kernel_rfl) (by kernel_rfl) ?_
          refine Each.off 53 (by kernel_rfl) (by kernel_rfl) (by kernel_rfl) ?_
          refine Each.val 54 (.bool true) (by kernel_rfl) (by kernel_rfl) (by kernel_rfl) (fun _ => rfl) (fun _ _ _ => by kernel_rfl) ?_
          refine Each.val 55 (.bool true) (by kernel_rfl) (by kernel_rfl) (by kernel_rfl) (fun _ => rfl) (fun _ _ _ => by kernel_rfl) ?_
          refine Each.off 56 (by kernel_rfl) (by kernel_rfl) (by kernel_rfl) ?_
          refine Each.off 57 (by kernel_rfl) (by kernel_rfl) (by kernel_rfl) ?_
          refine Each.off 58 (by kernel_rfl) (by kernel_rfl) (by kernel_rfl) ?_
          refine Each.off 59 (by kernel_rfl) (by kernel_rfl) (by kernel_rfl) ?_
          refine Each.off 60 (by kernel_rfl) (by kernel_rfl) (by kernel_rfl) ?_
          refine Each.val 61 (.bool true) (by kernel_rfl) (by kernel_rfl) (by kernel_rfl) (fun _ => rfl) (fun _ _ _ => by kernel_rfl) ?_
          refine Each.val 62 (.bool true) (by kernel_rfl) (by kernel_rfl) (by kernel_rfl) (fun _ => rfl) (fun _ _ _ => by kernel_rfl) ?_
          refine Each.off 63 (by kernel_rfl) (by kernel_rfl) (by kernel_rfl) ?_
          refine Each.off 64 (by kernel_rfl) (by kernel_rfl) (by kernel_rfl) ?_
          refine Each.off 65 (by kernel_rfl) (by kernel_rfl) (by kernel_rfl) ?_
          refine Each.off 66 (by kernel_rfl) (by kernel_rfl) (by kernel_rfl) ?_
          refine Each.off 67 (by kernel_rfl) (by kernel_rfl) (by kernel_rfl) ?_
          refine Each.val 68 (.bool true) (by kernel_rfl) (by kernel_rfl) (by kernel_rfl) (fun _ => rfl) (fun _ _ _ => by kernel_rfl) ?_
          exact trivial
        · intro w5 hS5
          obtain rfl : w5 = W4.drew := hS5
          go_wp2
          go_ret
          exact ⟨by rw [HE.out]; try rfl, K0.out.bl.drew⟩
      | true =>
        cases t3 : (((x.right.length : Nat) : Int) == ((q.right.length : Nat) : Int)) with
        | false =>
          have HE : Hid (r = false) := Lib.hid (by rw [HE0.out, HRs.out, t0, t1, t2, t3]; rfl)
          refine wp_region_vals0 (N := fun w w' => w' = w) (S := fun W => W = W4.drew)
            [.pointer (some ⟨w.heap.size, 0, none⟩), .slice (some ⟨b1, o1, none⟩) g.sorts.length g.sc, .pointer (some ⟨w.heap.size + 1 + 1, 0, none⟩), .int .i64 (j1 : Nat), .pointer (some ⟨b1, o1 + j1, none⟩), .string (S1 j1), .pointer (some ⟨w.heap.size + 1, 0, none⟩), .slice (some ⟨b2, o2, none⟩) h.sorts.length h.sc, .pointer (some ⟨w.heap.size + 1 + 1 + 1, 0, none⟩), .int .i64 (j2 : Nat), .pointer (some ⟨b2, o2 + j2, none⟩), .string (S2 j2), .bool false, .bool false, .pointer (some ⟨w.heap.size + 1 + 1, 2, none⟩), .string x.cons, .pointer (some ⟨w.heap.size + 1 + 1 + 1, 2, none⟩), .string q.cons, .bool false, .bool false, .bool false, .pointer (some ⟨w.heap.size + 1 + 1, 3, none⟩), .int .i64 x.role, .pointer (some ⟨w.heap.size + 1 + 1 + 1, 3, none⟩), .int .i64 q.role, .bool false, .bool false, .bool false, .pointer (some ⟨w.heap.size + 1 + 1, 1, none⟩), .slice ra1 x.right.length x.rc, .int .i64 (x.right.length : Nat), .pointer (some ⟨w.heap.size + 1 + 1 + 1, 1, none⟩), .slice ra2 q.right.length q.rc, .int .i64 (q.right.length : Nat), .bool true, .bool true, .bool true, undef, undef, undef, undef, undef, .bool true, .bool true, undef, undef, undef, undef, undef, .bool true, .bool true, undef, undef, undef, undef, undef, .bool true]
            #[.agg #[.slice (some ⟨b1, o1, none⟩) g.sorts.length g.sc, .slice g.pa g.prods.length g.pc, .int .i64 g.start, .slice g.fa g.forbid.length g.fc, .slice g.wa g.follow.length g.wc], .agg #[.slice (some ⟨b2, o2, none⟩) h.sorts.length h.sc, .slice h.pa h.prods.length h.pc, .int .i64 h.start, .slice h.fa h.forbid.length h.fc, .slice h.wa h.follow.length h.wc], .agg #[.int .i64 (j1 : Nat), .slice ra1 x.right.length x.rc, .string x.cons, .int .i64 x.role, .bool x.prefer, .bool x.avoid, .int .i64 x.frm], .agg #[.int .i64 (j2 : Nat), .slice ra2 q.right.length q.rc, .string q.cons, .int .i64 q.role, .bool q.prefer, .bool q.avoid, .int .i64 q.frm], .pointer (some ⟨w.heap.size, 0, none⟩), .pointer (some ⟨w.heap.size + 1, 0, none⟩), .pointer (some ⟨w.heap.size + 1 + 1, 0, none⟩), .pointer (some ⟨w.heap.size + 1 + 1 + 1, 0, none⟩), .bool false, undef, undef, undef, .pointer (some ⟨w.heap.size, 0, none⟩), .slice (some ⟨b1, o1, none⟩) g.sorts.length g.sc, .pointer (some ⟨w.heap.size + 1 + 1, 0, none⟩), .int .i64 (j1 : Nat), .pointer (some ⟨b1, o1 + j1, none⟩), .string (S1 j1), .pointer (some ⟨w.heap.size + 1, 0, none⟩), .slice (some ⟨b2, o2, none⟩) h.sorts.length h.sc, .pointer (some ⟨w.heap.size + 1 + 1 + 1, 0, none⟩), .int .i64 (j2 : Nat), .pointer (some ⟨b2, o2 + j2, none⟩), .string (S2 j2), .bool false, .bool false, .pointer (some ⟨w.heap.size + 1 + 1, 2, none⟩), .string x.cons, .pointer (some ⟨w.heap.size + 1 + 1 + 1, 2, none⟩), .string q.cons, .bool false, .bool false, .bool false, .pointer (some ⟨w.heap.size + 1 + 1, 3, none⟩), .int .i64 x.role, .pointer (some ⟨w.heap.size + 1 + 1 + 1, 3, none⟩), .int .i64 q.role, .bool false, .bool false, .bool false, .pointer (some ⟨w.heap.size + 1 + 1, 1, none⟩), .slice ra1 x.right.length x.rc, .int .i64 (x.right.length : Nat), .pointer (some ⟨w.heap.size + 1 + 1 + 1, 1, none⟩), .slice ra2 q.right.length q.rc, .int .i64 (q.right.length : Nat), .bool true, .bool true, .bool true, undef, undef, undef, undef, undef, .bool true, .bool true, undef, undef, undef, undef, undef, .bool true, .bool true, undef, undef, undef, undef, undef, .bool true, undef, undef, undef, undef, undef, undef, undef, undef, undef, undef, undef, undef, undef, undef, undef, undef, undef, undef, undef, undef, undef, undef, undef, undef, undef, undef, undef, undef, undef, undef, undef, undef, undef, undef, undef, undef, undef, undef, undef, undef, undef, undef, undef, undef, undef, undef, undef, undef, undef]
            rfl (by kernel_rfl) (by kernel_rfl) (by kernel_rfl) (fun _ => rfl) rfl (fun _ _ h h2 => h2.trans h) ?_ ?_
          · refine Each.val 12 (.pointer (some ⟨w.heap.size, 0, none⟩)) (by kernel_rfl) (by kernel_rfl) (by kernel_rfl) (fun _ => rfl) (fun W hS _ => fa27_0 rfl (by kernel_rfl)) ?_
            refine Each.val 13 (.slice (some ⟨b1, o1, none⟩) g.sorts.length g.sc) (by kernel_rfl) (by kernel_rfl) (by kernel_rfl) (fun _ => rfl) (fun W hS _ => ld22 rfl (by kernel_rfl) ((HC.out W hS).1.1)) ?_
            refine Each.val 14 (.pointer (some ⟨w.heap.size + 1 + 1, 0, none⟩)) (by kernel_rfl) (by kernel_rfl) (by kernel_rfl) (fun _ => rfl) (fun W hS _ => fa46_0 rfl (by kernel_rfl)) ?_
            refine Each.val 15 (.int .i64 (j1 : Nat)) (by kernel_rfl) (by kernel_rfl) (by kernel_rfl) (fun _ => rfl) (fun W hS _ => ld3 rfl (by kernel_rfl) ((HC.out W hS).2.2.1.1)) ?_
            refine Each.val 16 (.pointer (some ⟨b1, o1 + j1, none⟩)) (by kernel_rfl) (by kernel_rfl) (by kernel_rfl) (fun _ => rfl) (fun W hS _ => ix22 (c := g.sc) rfl (by kernel_rfl) (by kernel_rfl) ((hjn1)) rfl) ?_
            refine Each.val 17 (.string (S1 j1)) (by kernel_rfl) (by kernel_rfl) (by kernel_rfl) (fun _ => rfl) (fun W hS _ => ld9 rfl (by kernel_rfl) ((HC.out W hS).2.1.1)) ?_
            refine Each.val 18 (.pointer (some ⟨w.heap.size + 1, 0, none⟩)) (by kernel_rfl) (by kernel_rfl) (by kernel_rfl) (fun _ => rfl) (fun W hS _ => fa27_0 rfl (by kernel_rfl)) ?_
            refine Each.val 19 (.slice (some ⟨b2, o2, none⟩) h.sorts.length h.sc) (by kernel_rfl) (by kernel_rfl) (by kernel_rfl) (fun _ => rfl) (fun W hS _ => ld22 rfl (by kernel_rfl) ((HC.out W hS).1.2)) ?_
            refine Each.val 20 (.pointer (some ⟨w.heap.size + 1 + 1 + 1, 0, none⟩)) (by kernel_rfl) (by kernel_rfl) (by kernel_rfl) (fun _ => rfl) (fun W hS _ => fa46_0 rfl (by kernel_rfl)) ?_
            refine Each.val 21 (.int .i64 (j2 : Nat)) (by kernel_rfl) (by kernel_rfl) (by kernel_rfl) (fun _ => rfl) (fun W hS _ => ld3 rfl (by kernel_rfl) ((HC.out W hS).2.2.2.1)) ?_
            refine Each.val 22 (.pointer (some ⟨b2, o2 + j2, none⟩)) (by kernel_rfl) (by kernel_rfl) (by kernel_rfl) (fun _ => rfl) (fun W hS _ => ix22 (c := h.sc) rfl (by kernel_rfl) (by kernel_rfl) ((hjn2)) rfl) ?_
            refine Each.val 23 (.string (S2 j2)) (by kernel_rfl) (by kernel_rfl) (by kernel_rfl) (fun _ => rfl) (fun W hS _ => ld9 rfl (by kernel_rfl) ((HC.out W hS).2.1.2)) ?_
            refine Each.val 24 (.bool false) (by kernel_rfl) (by kernel_rfl) (by kernel_rfl) (fun _ => rfl) (fun W hS _ => ex_neq9 rfl (by kernel_rfl) (by kernel_rfl) (t0)) ?_
            refine Each.val 25 (.bool false) (by kernel_rfl) (by kernel_rfl) (by kernel_rfl) (fun _ => rfl) (fun _ _ _ => by kernel_rfl) ?_
            refine Each.val 26 (.pointer (some ⟨w.heap.size + 1 + 1, 2, none⟩)) (by kernel_rfl) (by kernel_rfl) (by kernel_rfl) (fun _ => rfl) (fun W hS _ => fa46_2 rfl (by kernel_rfl)) ?_
            refine Each.val 27 (.string x.cons) (by kernel_rfl) (by kernel_rfl) (by kernel_rfl) (fun _ => rfl) (fun W hS _ => ld9 rfl (by kernel_rfl) ((HC.out W hS).2.2.1.2.2.1)) ?_
            refine Each.val 28 (.pointer (some ⟨w.heap.size + 1 + 1 + 1, 2, none⟩)) (by kernel_rfl) (by kernel_rfl) (by kernel_rfl) (fun _ => rfl) (fun W hS _ => fa46_2 rfl (by kernel_rfl)) ?_
            refine Each.val 29 (.string q.cons) (by kernel_rfl) (by kernel_rfl) (by kernel_rfl) (fun _ => rfl) (fun W hS _ => ld9 rfl (by kernel_rfl) ((HC.out W hS).2.2.2.2.2.1)) ?_
            refine Each.val 30 (.bool false) (by kernel_rfl) (by kernel_rfl) (by kernel_rfl) (fun _ => rfl) (fun W hS _ => ex_neq9 rfl (by kernel_rfl) (by kernel_rfl) (t1)) ?_
            refine Each.val 31 (.bool false) (by kernel_rfl) (by kernel_rfl) (by kernel_rfl) (fun _ => rfl) (fun _ _ _ => by kernel_rfl) ?_
            refine Each.val 32 (.bool false) (by kernel_rfl) (by kernel_rfl) (by kernel_rfl) (fun _ => rfl) (fun _ _ _ => by kernel_rfl) ?_
            refine Each.val 33 (.pointer (some ⟨w.heap.size + 1 + 1, 3, none⟩)) (by kernel_rfl) (by kernel_rfl) (by kernel_rfl) (fun _ => rfl) (fun W hS _ => fa46_3 rfl (by kernel_rfl)) ?_
            refine Each.val 34 (.int .i64 x.role) (by kernel_rfl) (by kernel_rfl) (by kernel_rfl) (fun _ => rfl) (fun W hS _ => ld44 rfl (by kernel_rfl) ((HC.out W hS).2.2.1.2.2.2.1)) ?_
            refine Each.val 35 (.pointer (some ⟨w.heap.size + 1 + 1 + 1, 3, none⟩)) (by kernel_rfl) (by kernel_rfl) (by kernel_rfl) (fun _ => rfl) (fun W hS _ => fa46_3 rfl (by kernel_rfl)) ?_
            refine Each.val 36 (.int .i64 q.role) (by kernel_rfl) (by kernel_rfl) (by kernel_rfl) (fun _ => rfl) (fun W hS _ => ld44 rfl (by kernel_rfl) ((HC.out W hS).2.2.2.2.2.2.1)) ?_
            refine Each.val 37 (.bool false) (by kernel_rfl) (by kernel_rfl) (by kernel_rfl) (fun _ => rfl) (fun W hS _ => ex_neq44 rfl (by kernel_rfl) (by kernel_rfl) (t2)) ?_
            refine Each.val 38 (.bool false) (by kernel_rfl) (by kernel_rfl) (by kernel_rfl) (fun _ => rfl) (fun _ _ _ => by kernel_rfl) ?_
            refine Each.val 39 (.bool false) (by kernel_rfl) (by kernel_rfl) (by kernel_rfl) (fun _ => rfl) (fun _ _ _ => by kernel_rfl) ?_
            refine Each.val 40 (.pointer (some ⟨w.heap.size + 1 + 1, 1, none⟩)) (by kernel_rfl) (by kernel_rfl) (by kernel_rfl) (fun _ => rfl) (fun W hS _ => fa46_1 rfl (by kernel_rfl)) ?_
            refine Each.val 41 (.slice ra1 x.right.length x.rc) (by kernel_rfl) (by kernel_rfl) (by kernel_rfl) (fun _ => rfl) (fun W hS _ => ld43 rfl (by kernel_rfl) ((HC.out W hS).2.2.1.2.1)) ?_
            refine Each.val 42 (.int .i64 (x.right.length : Nat)) (by kernel_rfl) (by kernel_rfl) (by kernel_rfl) (fun _ => rfl) (fun W hS _ => len43 (a := ra1) (c := x.rc) rfl (by kernel_rfl)) ?_
            refine Each.val 43 (.pointer (some ⟨w.heap.size + 1 + 1 + 1, 1, none⟩)) (by kernel_rfl) (by kernel_rfl) (by kernel_rfl) (fun _ => rfl) (fun W hS _ => fa46_1 rfl (by kernel_rfl)) ?_
            refine Each.val 44 (.slice ra2 q.right.length q.rc) (by kernel_rfl) (by kernel_rfl) (by kernel_rfl) (fun _ => rfl) (fun W hS _ => ld43 rfl (by kernel_rfl) ((HC.out W hS).2.2.2.2.1)) ?_
            refine Each.val 45 (.int .i64 (q.right.length : Nat)) (by kernel_rfl) (by kernel_rfl) (by kernel_rfl) (fun _ => rfl) (fun W hS _ => len43 (a := ra2) (c := q.rc) rfl (by kernel_rfl)) ?_
            refine Each.val 46 (.bool true) (by kernel_rfl) (by kernel_rfl) (by kernel_rfl) (fun _ => rfl) (fun W hS _ => ex_neq3 rfl (by kernel_rfl) (by kernel_rfl) (t3)) ?_
            refine Each.val 47 (.bool true) (by kernel_rfl) (by kernel_rfl) (by kernel_rfl) (fun _ => rfl) (fun _ _ _ => by kernel_rfl) ?_
            refine Each.val 48 (.bool true) (by kernel_rfl) (by kernel_rfl) (by kernel_rfl) (fun _ => rfl) (fun _ _ _ => by kernel_rfl) ?_
            refine Each.off 49 (by kernel_rfl) (by kernel_rfl) (by kernel_rfl) ?_
            refine Each.off 50 (by kernel_rfl) (by kernel_rfl) (by kernel_rfl) ?_
            refine Each.off 51 (by kernel_rfl) (by kernel_rfl) (by kernel_rfl) ?_
            refine Each.off 52 (by kernel_rfl) (by kernel_rfl) (by kernel_rfl) ?_
            refine Each.off 53 (by kernel_rfl) (by kernel_rfl) (by kernel_rfl) ?_
            refine Each.val 54 (.bool true) (by kernel_rfl) (by kernel_rfl) (by kernel_rfl) (fun _ => rfl) (fun _ _ _ => by kernel_rfl) ?_
            refine Each.val 55 (.bool true) (by kernel_rfl) (by kernel_rfl) (by kernel_rfl) (fun _ => rfl) (fun _ _ _ => by kernel_rfl) ?_
            refine Each.off 56 (by kernel_rfl) (by kernel_rfl) (by kernel_rfl) ?_
            refine Each.off 57 (by kernel_rfl) (by kernel_rfl) (by kernel_rfl) ?_
            refine Each.off 58 (by kernel_rfl) (by kernel_rfl) (by kernel_rfl) ?_
            refine Each.off 59 (by kernel_rfl) (by kernel_rfl) (by kernel_rfl) ?_
            refine Each.off 60 (by kernel_rfl) (by kernel_rfl) (by kernel_rfl) ?_
            refine Each.val 61 (.bool true) (by kernel_rfl) (by kernel_rfl) (by kernel_rfl) (fun _ => rfl) (fun _ _ _ => by kernel_rfl) ?_
            refine Each.val 62 (.bool true) (by kernel_rfl) (by kernel_rfl) (by kernel_rfl) (fun _ => rfl) (fun _ _ _ => by kernel_rfl) ?_
            refine Each.off 63 (by kernel_rfl) (by kernel_rfl) (by kernel_rfl) ?_
            refine Each.off 64 (by kernel_rfl) (by kernel_rfl) (by kernel_rfl) ?_
            refine Each.off 65 (by kernel_rfl) (by kernel_rfl) (by kernel_rfl) ?_
            refine Each.off 66 (by kernel_rfl) (by kernel_rfl) (by kernel_rfl) ?_
            refine Each.off 67 (by kernel_rfl) (by kernel_rfl) (by kernel_rfl) ?_
            refine Each.val 68 (.bool true) (by kernel_rfl) (by kernel_rfl) (by kernel_rfl) (fun _ => rfl) (fun _ _ _ => by kernel_rfl) ?_
            exact trivial
          · intro w5 hS5
            obtain rfl : w5 = W4.drew := hS5
            go_wp2
            go_ret
            exact ⟨by rw [HE.out]; try rfl, K0.out.bl.drew⟩
        | true =>
          cases t4 : (x.frm == q.frm) with
          | false =>
            have HE : Hid (r = false) := Lib.hid (by rw [HE0.out, HRs.out, t0, t1, t2, t3, t4]; rfl)
            refine wp_region_vals0 (N := fun w w' => w' = w) (S := fun W => W = W4.drew)
              [.pointer (some ⟨w.heap.size, 0, none⟩), .slice (some ⟨b1, o1, none⟩) g.sorts.length g.sc, .pointer (some ⟨w.heap.size + 1 + 1, 0, none⟩), .int .i64 (j1 : Nat), .pointer (some ⟨b1, o1 + j1, none⟩), .string (S1 j1), .pointer (some ⟨w.heap.size + 1, 0, none⟩), .slice (some ⟨b2, o2, none⟩) h.sorts.length h.sc, .pointer (some ⟨w.heap.size + 1 + 1 + 1, 0, none⟩), .int .i64 (j2 : Nat), .pointer (some ⟨b2, o2 + j2, none⟩), .string (S2 j2), .bool false, .bool false, .pointer (some ⟨w.heap.size + 1 + 1, 2, none⟩), .string x.cons, .pointer (some ⟨w.heap.size + 1 + 1 + 1, 2, none⟩), .string q.cons, .bool false, .bool false, .bool false, .pointer (some ⟨w.heap.size + 1 + 1, 3, none⟩), .int .i64 x.role, .pointer (some ⟨w.heap.size + 1 + 1 + 1, 3, none⟩), .int .i64 q.role, .bool false, .bool false, .bool false, .pointer (some ⟨w.heap.size + 1 + 1, 1, none⟩), .slice ra1 x.right.length x.rc, .int .i64 (x.right.length : Nat), .pointer (some ⟨w.heap.size + 1 + 1 + 1, 1, none⟩), .slice ra2 q.right.length q.rc, .int .i64 (q.right.length : Nat), .bool false, .bool false, .bool false, .pointer (some ⟨w.heap.size + 1 + 1, 6, none⟩), .int .i64 x.frm, .pointer (some ⟨w.heap.size + 1 + 1 + 1, 6, none⟩), .int .i64 q.frm, .bool true, .bool true, .bool true, undef, undef, undef, undef, undef, .bool true, .bool true, undef, undef, undef, undef, undef, .bool true]
              #[.agg #[.slice (some ⟨b1, o1, none⟩) g.sorts.length g.sc, .slice g.pa g.prods.length g.pc, .int .i64 g.start, .slice g.fa g.forbid.length g.fc, .slice g.wa g.follow.length g.wc], .agg #[.slice (some ⟨b2, o2, none⟩) h.sorts.length h.sc, .slice h.pa h.prods.length h.pc, .int .i64 h.start, .slice h.fa h.forbid.length h.fc, .slice h.wa h.follow.length h.wc], .agg #[.int .i64 (j1 : Nat), .slice ra1 x.right.length x.rc, .string x.cons, .int .i64 x.role, .bool x.prefer, .bool x.avoid, .int .i64 x.frm], .agg #[.int .i64 (j2 : Nat), .slice ra2 q.right.length q.rc, .string q.cons, .int .i64 q.role, .bool q.prefer, .bool q.avoid, .int .i64 q.frm], .pointer (some ⟨w.heap.size, 0, none⟩), .pointer (some ⟨w.heap.size + 1, 0, none⟩), .pointer (some ⟨w.heap.size + 1 + 1, 0, none⟩), .pointer (some ⟨w.heap.size + 1 + 1 + 1, 0, none⟩), .bool false, undef, undef, undef, .pointer (some ⟨w.heap.size, 0, none⟩), .slice (some ⟨b1, o1, none⟩) g.sorts.length g.sc, .pointer (some ⟨w.heap.size + 1 + 1, 0, none⟩), .int .i64 (j1 : Nat), .pointer (some ⟨b1, o1 + j1, none⟩), .string (S1 j1), .pointer (some ⟨w.heap.size + 1, 0, none⟩), .slice (some ⟨b2, o2, none⟩) h.sorts.length h.sc, .pointer (some ⟨w.heap.size + 1 + 1 + 1, 0, none⟩), .int .i64 (j2 : Nat), .pointer (some ⟨b2, o2 + j2, none⟩), .string (S2 j2), .bool false, .bool false, .pointer (some ⟨w.heap.size + 1 + 1, 2, none⟩), .string x.cons, .pointer (some ⟨w.heap.size + 1 + 1 + 1, 2, none⟩), .string q.cons, .bool false, .bool false, .bool false, .pointer (some ⟨w.heap.size + 1 + 1, 3, none⟩), .int .i64 x.role, .pointer (some ⟨w.heap.size + 1 + 1 + 1, 3, none⟩), .int .i64 q.role, .bool false, .bool false, .bool false, .pointer (some ⟨w.heap.size + 1 + 1, 1, none⟩), .slice ra1 x.right.length x.rc, .int .i64 (x.right.length : Nat), .pointer (some ⟨w.heap.size + 1 + 1 + 1, 1, none⟩), .slice ra2 q.right.length q.rc, .int .i64 (q.right.length : Nat), .bool false, .bool false, .bool false, .pointer (some ⟨w.heap.size + 1 + 1, 6, none⟩), .int .i64 x.frm, .pointer (some ⟨w.heap.size + 1 + 1 + 1, 6, none⟩), .int .i64 q.frm, .bool true, .bool true, .bool true, undef, undef, undef, undef, undef, .bool true, .bool true, undef, undef, undef, undef, undef, .bool true, undef, undef, undef, undef, undef, undef, undef, undef, undef, undef, undef, undef, undef, undef, undef, undef, undef, undef, undef, undef, undef, undef, undef, undef, undef, undef, undef, undef, undef, undef, undef, undef, undef, undef, undef, undef, undef, undef, undef, undef, undef, undef, undef, undef, undef, undef, undef, undef, undef]
              rfl (by kernel_rfl) (by kernel_rfl) (by kernel_rfl) (fun _ => rfl) rfl (fun _ _ h h2 => h2.trans h) ?_ ?_
            · refine Each.val 12 (.pointer (some ⟨w.heap.size, 0, none⟩)) (by kernel_rfl) (by kernel_rfl) (by kernel_rfl) (fun _ => rfl) (fun W hS _ => fa27_0 rfl (by kernel_rfl)) ?_
              refine Each.val 13 (.slice (some ⟨b1, o1, none⟩) g.sorts.length g.sc) (by kernel_rfl) (by kernel_rfl) (by kernel_rfl) (fun _ => rfl) (fun W hS _ => ld22 rfl (by kernel_rfl) ((HC.out W hS).1.1)) ?_
              refine Each.val 14 (.pointer (some ⟨w.heap.size + 1 + 1, 0, none⟩)) (by kernel_rfl) (by kernel_rfl) (by kernel_rfl) (fun _ => rfl) (fun W hS _ => fa46_0 rfl (by kernel_rfl)) ?_
              refine Each.val 15 (.int .i64 (j1 : Nat)) (by kernel_rfl) (by kernel_rfl) (by kernel_rfl) (fun _ => rfl) (fun W hS _ => ld3 rfl (by kernel_rfl) ((HC.out W hS).2.2.1.1)) ?_
              refine Each.val 16 (.pointer (some ⟨b1, o1 + j1, none⟩)) (by kernel_rfl) (by kernel_rfl) (by kernel_rfl) (fun _ => rfl) (fun W hS _ => ix22 (c := g.sc) rfl (by kernel_rfl) (by kernel_rfl) ((hjn1)) rfl) ?_
              refine Each.val 17 (.string (S1 j1)) (by kernel_rfl) (by kernel_rfl) (by kernel_rfl) (fun _ => rfl) (fun W hS _ => ld9 rfl (by kernel_rfl) ((HC.out W hS).2.1.1)) ?_
              refine Each.val 18 (.pointer (some ⟨w.heap.size + 1, 0, none⟩)) (by kernel_rfl) (by kernel_rfl) (by kernel_rfl) (fun _ => rfl) (fun W hS _ => fa27_0 rfl (by kernel_rfl)) ?_
              refine Each.val 19 (.slice (some ⟨b2, o2, none⟩) h.sorts.length h.sc) (by kernel_rfl) (by kernel_rfl) (by kernel_rfl) (fun _ => rfl) (fun W hS _ => ld22 rfl (by kernel_rfl) ((HC.out W hS).1.2)) ?_
              refine Each.val 20 (.pointer (some ⟨w.heap.size + 1 + 1 + 1, 0, none⟩)) (by kernel_rfl) (by kernel_rfl) (by kernel_rfl) (fun _ => rfl) (fun W hS _ => fa46_0 rfl (by kernel_rfl)) ?_
              refine Each.val 21 (.int .i64 (j2 : Nat)) (by kernel_rfl) (by kernel_rfl) (by kernel_rfl) (fun _ => rfl) (fun W hS _ => ld3 rfl (by kernel_rfl) ((HC.out W hS).2.2.2.1)) ?_
              refine Each.val 22 (.pointer (some ⟨b2, o2 + j2, none⟩)) (by kernel_rfl) (by kernel_rfl) (by kernel_rfl) (fun _ => rfl) (fun W hS _ => ix22 (c := h.sc) rfl (by kernel_rfl) (by kernel_rfl) ((hjn2)) rfl) ?_
              refine Each.val 23 (.string (S2 j2)) (by kernel_rfl) (by kernel_rfl) (by kernel_rfl) (fun _ => rfl) (fun W hS _ => ld9 rfl (by kernel_rfl) ((HC.out W hS).2.1.2)) ?_
              refine Each.val 24 (.bool false) (by kernel_rfl) (by kernel_rfl) (by kernel_rfl) (fun _ => rfl) (fun W hS _ => ex_neq9 rfl (by kernel_rfl) (by kernel_rfl) (t0)) ?_
              refine Each.val 25 (.bool false) (by kernel_rfl) (by kernel_rfl) (by kernel_rfl) (fun _ => rfl) (fun _ _ _ => by kernel_rfl) ?_
              refine Each.val 26 (.pointer (some ⟨w.heap.size + 1 + 1, 2, none⟩)) (by kernel_rfl) (by kernel_rfl) (by kernel_rfl) (fun _ => rfl) (fun W hS _ => fa46_2 rfl (by kernel_rfl)) ?_
              refine Each.val 27 (.string x.cons) (by kernel_rfl) (by kernel_rfl) (by kernel_rfl) (fun _ => rfl) (fun W hS _ => ld9 rfl (by kernel_rfl) ((HC.out W hS).2.2.1.2.2.1)) ?_
              refine Each.val 28 (.pointer (some ⟨w.heap.size + 1 + 1 + 1, 2, none⟩)) (by kernel_rfl) (by kernel_rfl) (by kernel_rfl) (fun _ => rfl) (fun W hS _ => fa46_2 rfl (by kernel_rfl)) ?_
              refine Each.val 29 (.string q.cons) (by kernel_rfl) (by kernel_rfl) (by kernel_rfl) (fun _ => rfl) (fun W hS _ => ld9 rfl (by kernel_rfl) ((HC.out W hS).2.2.2.2.2.1)) ?_
              refine Each.val 30 (.bool false) (by kernel_rfl) (by kernel_rfl) (by kernel_rfl) (fun _ => rfl) (fun W hS _ => ex_neq9 rfl (by kernel_rfl) (by kernel_rfl) (t1)) ?_
              refine Each.val 31 (.bool false) (by kernel_rfl) (by kernel_rfl) (by kernel_rfl) (fun _ => rfl) (fun _ _ _ => by kernel_rfl) ?_
              refine Each.val 32 (.bool false) (by kernel_rfl) (by kernel_rfl) (by kernel_rfl) (fun _ => rfl) (fun _ _ _ => by kernel_rfl) ?_
              refine Each.val 33 (.pointer (some ⟨w.heap.size + 1 + 1, 3, none⟩)) (by kernel_rfl) (by kernel_rfl) (by kernel_rfl) (fun _ => rfl) (fun W hS _ => fa46_3 rfl (by kernel_rfl)) ?_
              refine Each.val 34 (.int .i64 x.role) (by kernel_rfl) (by kernel_rfl) (by kernel_rfl) (fun _ => rfl) (fun W hS _ => ld44 rfl (by kernel_rfl) ((HC.out W hS).2.2.1.2.2.2.1)) ?_
              refine Each.val 35 (.pointer (some ⟨w.heap.size + 1 + 1 + 1, 3, none⟩)) (by kernel_rfl) (by kernel_rfl) (by kernel_rfl) (fun _ => rfl) (fun W hS _ => fa46_3 rfl (by kernel_rfl)) ?_
              refine Each.val 36 (.int .i64 q.role) (by kernel_rfl) (by kernel_rfl) (by kernel_rfl) (fun _ => rfl) (fun W hS _ => ld44 rfl (by kernel_rfl) ((HC.out W hS).2.2.2.2.2.2.1)) ?_
              refine Each.val 37 (.bool false) (by kernel_rfl) (by kernel_rfl) (by kernel_rfl) (fun _ => rfl) (fun W hS _ => ex_neq44 rfl (by kernel_rfl) (by kernel_rfl) (t2)) ?_
              refine Each.val 38 (.bool false) (by kernel_rfl) (by kernel_rfl) (by kernel_rfl) (fun _ => rfl) (fun _ _ _ => by kernel_rfl) ?_
              refine Each.val 39 (.bool false) (by kernel_rfl) (by kernel_rfl) (by kernel_rfl) (fun _ => rfl) (fun _ _ _ => by kernel_rfl) ?_
              refine Each.val 40 (.pointer (some ⟨w.heap.size + 1 + 1, 1, none⟩)) (by kernel_rfl) (by kernel_rfl) (by kernel_rfl) (fun _ => rfl) (fun W hS _ => fa46_1 rfl (by kernel_rfl)) ?_
              refine Each.val 41 (.slice ra1 x.right.length x.rc) (by kernel_rfl) (by kernel_rfl) (by kernel_rfl) (fun _ => rfl) (fun W hS _ => ld43 rfl (by kernel_rfl) ((HC.out W hS).2.2.1.2.1)) ?_
              refine Each.val 42 (.int .i64 (x.right.length : Nat)) (by kernel_rfl) (by kernel_rfl) (by kernel_rfl) (fun _ => rfl) (fun W hS _ => len43 (a := ra1) (c := x.rc) rfl (by kernel_rfl)) ?_
              refine Each.val 43 (.pointer (some ⟨w.heap.size + 1 + 1 + 1, 1, none⟩)) (by kernel_rfl) (by kernel_rfl) (by kernel_rfl) (fun _ => rfl) (fun W hS _ => fa46_1 rfl (by kernel_rfl)) ?_
              refine Each.val 44 (.slice ra2 q.right.length q.rc) (by kernel_rfl) (by kernel_rfl) (by kernel_rfl) (fun _ => rfl) (fun W hS _ => ld43 rfl (by kernel_rfl) ((HC.out W hS).2.2.2.2.1)) ?_
              refine Each.val 45 (.int .i64 (q.right.length : Nat)) (by kernel_rfl) (by kernel_rfl) (by kernel_rfl) (fun _ => rfl) (fun W hS _ => len43 (a := ra2) (c := q.rc) rfl (by kernel_rfl)) ?_
              refine Each.val 46 (.bool false) (by kernel_rfl) (by kernel_rfl) (by kernel_rfl) (fun _ => rfl) (fun W hS _ => ex_neq3 rfl (by kernel_rfl) (by kernel_rfl) (t3)) ?_
              refine Each.val 47 (.bool false) (by kernel_rfl) (by kernel_rfl) (by kernel_rfl) (fun _ => rfl) (fun _ _ _ => by kernel_rfl) ?_
              refine Each.val 48 (.bool false) (by kernel_rfl) (by kernel_rfl) (by kernel_rfl) (fun _ => rfl) (fun _ _ _ => by kernel_rfl) ?_
              refine Each.val 49 (.pointer (some ⟨w.heap.size + 1 + 1, 6, none⟩)) (by kernel_rfl) (by kernel_rfl) (by kernel_rfl) (fun _ => rfl) (fun W hS _ => fa46_6 rfl (by kernel_rfl)) ?_
              refine Each.val 50 (.int .i64 x.frm) (by kernel_rfl) (by kernel_rfl) (by kernel_rfl) (fun _ => rfl) (fun W hS _ => ld3 rfl (by kernel_rfl) ((HC.out W hS).2.2.1.2.2.2.2.2.2)) ?_
              refine Each.val 51 (.pointer (some ⟨w.heap.size + 1 + 1 + 1, 6, none⟩)) (by kernel_rfl) (by kernel_rfl) (by kernel_rfl) (fun _ => rfl) (fun W hS _ => fa46_6 rfl (by kernel_rfl)) ?_
              refine Each.val 52 (.int .i64 q.frm) (by kernel_rfl) (by kernel_rfl) (by kernel_rfl) (fun _ => rfl) (fun W hS _ => ld3 rfl (by kernel_rfl) ((HC.out W hS).2.2.2.2.2.2.2.2.2)) ?_
              refine Each.val 53 (.bool true) (by kernel_rfl) (by kernel_rfl) (by kernel_rfl) (fun _ => rfl) (fun W hS _ => ex_neq3 rfl (by kernel_rfl) (by kernel_rfl) (t4)) ?_
              refine Each.val 54 (.bool true) (by kernel_rfl) (by kernel_rfl) (by kernel_rfl) (fun _ => rfl) (fun _ _ _ => by kernel_rfl) ?_
              refine Each.val 55 (.bool true) (by kernel_rfl) (by kernel_rfl) (by kernel_rfl) (fun _ => rfl) (fun _ _ _ => by kernel_rfl) ?_
              refine Each.off 56 (by kernel_rfl) (by kernel_rfl) (by kernel_rfl) ?_
              refine Each.off 57 (by kernel_rfl) (by kernel_rfl) (by kernel_rfl) ?_
              refine Each.off 58 (by kernel_rfl) (by kernel_rfl) (by kernel_rfl) ?_
              refine Each.off 59 (by kernel_rfl) (by kernel_rfl) (by kernel_rfl) ?_
              refine Each.off 60 (by kernel_rfl) (by kernel_rfl) (by kernel_rfl) ?_
              refine Each.val 61 (.bool true) (by kernel_rfl) (by kernel_rfl) (by kernel_rfl) (fun _ => rfl) (fun _ _ _ => by kernel_rfl) ?_
              refine Each.val 62 (.bool true) (by kernel_rfl) (by kernel_rfl) (by kernel_rfl) (fun _ => rfl) (fun _ _ _ => by kernel_rfl) ?_
              refine Each.off 63 (by kernel_rfl) (by kernel_rfl) (by kernel_rfl) ?_
              refine Each.off 64 (by kernel_rfl) (by kernel_rfl) (by kernel_rfl) ?_
              refine Each.off 65 (by kernel_rfl) (by kernel_rfl) (by kernel_rfl) ?_
              refine Each.off 66 (by kernel_rfl) (by kernel_rfl) (by kernel_rfl) ?_
              refine Each.off 67 (by kernel_rfl) (by kernel_rfl) (by kernel_rfl) ?_
              refine Each.val 68 (.bool true) (by kernel_rfl) (by kernel_rfl) (by kernel_rfl) (fun _ => rfl) (fun _ _ _ => by kernel_rfl) ?_
              exact trivial
            · intro w5 hS5
              obtain rfl : w5 = W4.drew := hS5
              go_wp2
              go_ret
              exact ⟨by rw [HE.out]; try rfl, K0.out.bl.drew⟩
          | true =>
            cases t5 : (x.prefer == q.prefer) with
            | false =>
              have HE : Hid (r = false) := Lib.hid (by rw [HE0.out, HRs.out, t0, t1, t2, t3, t4, t5]; rfl)
              refine wp_region_vals0 (N := fun w w' => w' = w) (S := fun W => W = W4.drew)
                [.pointer (some ⟨w.heap.size, 0, none⟩), .slice (some ⟨b1, o1, none⟩) g.sorts.length g.sc, .pointer (some ⟨w.heap.size + 1 + 1, 0, none⟩), .int .i64 (j1 : Nat), .pointer (some ⟨b1, o1 + j1, none⟩), .string (S1 j1), .pointer (some ⟨w.heap.size + 1, 0, none⟩), .slice (some ⟨b2, o2, none⟩) h.sorts.length h.sc, .pointer (some ⟨w.heap.size + 1 + 1 + 1, 0, none⟩), .int .i64 (j2 : Nat), .pointer (some ⟨b2, o2 + j2, none⟩), .string (S2 j2), .bool false, .bool false, .pointer (some ⟨w.heap.size + 1 + 1, 2, none⟩), .string x.cons, .pointer (some ⟨w.heap.size + 1 + 1 + 1, 2, none⟩), .string q.cons, .bool false, .bool false, .bool false, .pointer (some ⟨w.heap.size + 1 + 1, 3, none⟩), .int .i64 x.role, .pointer (some ⟨w.heap.size + 1 + 1 + 1, 3, none⟩), .int .i64 q.role, .bool false, .bool false, .bool false, .pointer (some ⟨w.heap.size + 1 + 1, 1, none⟩), .slice ra1 x.right.length x.rc, .int .i64 (x.right.length : Nat), .pointer (some ⟨w.heap.size + 1 + 1 + 1, 1, none⟩), .slice ra2 q.right.length q.rc, .int .i64 (q.right.length : Nat), .bool false, .bool false, .bool false, .pointer (some ⟨w.heap.size + 1 + 1, 6, none⟩), .int .i64 x.frm, .pointer (some ⟨w.heap.size + 1 + 1 + 1, 6, none⟩), .int .i64 q.frm, .bool false, .bool false, .bool false, .pointer (some ⟨w.heap.size + 1 + 1, 4, none⟩), .bool x.prefer, .pointer (some ⟨w.heap.size + 1 + 1 + 1, 4, none⟩), .bool q.prefer, .bool true, .bool true, .bool true, undef, undef, undef, undef, undef, .bool true]
                #[.agg #[.slice (some ⟨b1, o1, none⟩) g.sorts.length g.sc, .slice g.pa g.prods.length g.pc, .int .i64 g.start, .slice g.fa g.forbid.length g.fc, .slice g.wa g.follow.length g.wc], .agg #[.slice (some ⟨b2, o2, none⟩) h.sorts.length h.sc, .slice h.pa h.prods.length h.pc, .int .i64 h.start, .slice h.fa h.forbid.length h.fc, .slice h.wa h.follow.length h.wc], .agg #[.int .i64 (j1 : Nat), .slice ra1 x.right.length x.rc, .string x.cons, .int .i64 x.role, .bool x.prefer, .bool x.avoid, .int .i64 x.frm], .agg #[.int .i64 (j2 : Nat), .slice ra2 q.right.length q.rc, .string q.cons, .int .i64 q.role, .bool q.prefer, .bool q.avoid, .int .i64 q.frm], .pointer (some ⟨w.heap.size, 0, none⟩), .pointer (some ⟨w.heap.size + 1, 0, none⟩), .pointer (some ⟨w.heap.size + 1 + 1, 0, none⟩), .pointer (some ⟨w.heap.size + 1 + 1 + 1, 0, none⟩), .bool false, undef, undef, undef, .pointer (some ⟨w.heap.size, 0, none⟩), .slice (some ⟨b1, o1, none⟩) g.sorts.length g.sc, .pointer (some ⟨w.heap.size + 1 + 1, 0, none⟩), .int .i64 (j1 : Nat), .pointer (some ⟨b1, o1 + j1, none⟩), .string (S1 j1), .pointer (some ⟨w.heap.size + 1, 0, none⟩), .slice (some ⟨b2, o2, none⟩) h.sorts.length h.sc, .pointer (some ⟨w.heap.size + 1 + 1 + 1, 0, none⟩), .int .i64 (j2 : Nat), .pointer (some ⟨b2, o2 + j2, none⟩), .string (S2 j2), .bool false, .bool false, .pointer (some ⟨w.heap.size + 1 + 1, 2, none⟩), .string x.cons, .pointer (some ⟨w.heap.size + 1 + 1 + 1, 2, none⟩), .string q.cons, .bool false, .bool false, .bool false, .pointer (some ⟨w.heap.size + 1 + 1, 3, none⟩), .int .i64 x.role, .pointer (some ⟨w.heap.size + 1 + 1 + 1, 3, none⟩), .int .i64 q.role, .bool false, .bool false, .bool false, .pointer (some ⟨w.heap.size + 1 + 1, 1, none⟩), .slice ra1 x.right.length x.rc, .int .i64 (x.right.length : Nat), .pointer (some ⟨w.heap.size + 1 + 1 + 1, 1, none⟩), .slice ra2 q.right.length q.rc, .int .i64 (q.right.length : Nat), .bool false, .bool false, .bool false, .pointer (some ⟨w.heap.size + 1 + 1, 6, none⟩), .int .i64 x.frm, .pointer (some ⟨w.heap.size + 1 + 1 + 1, 6, none⟩), .int .i64 q.frm, .bool false, .bool false, .bool false, .pointer (some ⟨w.heap.size + 1 + 1, 4, none⟩), .bool x.prefer, .pointer (some ⟨w.heap.size + 1 + 1 + 1, 4, none⟩), .bool q.prefer, .bool true, .bool true, .bool true, undef, undef, undef, undef, undef, .bool true, undef, undef, undef, undef, undef, undef, undef, undef, undef, undef, undef, undef, undef, undef, undef, undef, undef, undef, undef, undef, undef, undef, undef, undef, undef, undef, undef, undef, undef, undef, undef, undef, undef, undef, undef, undef, undef, undef, undef, undef, undef, undef, undef, undef, undef, undef, undef, undef, undef]
                rfl (by kernel_rfl) (by kernel_rfl) (by kernel_rfl) (fun _ => rfl) rfl (fun _ _ h h2 => h2.trans h) ?_ ?_
              · refine Each.val 12 (.pointer (some ⟨w.heap.size, 0, none⟩)) (by kernel_rfl) (by kernel_rfl) (by kernel_rfl) (fun _ => rfl) (fun W hS _ => fa27_0 rfl (by kernel_rfl)) ?_
                refine Each.val 13 (.slice (some ⟨b1, o1, none⟩) g.sorts.length g.sc) (by kernel_rfl) (by kernel_rfl) (by kernel_rfl) (fun _ => rfl) (fun W hS _ => ld22 rfl (by kernel_rfl) ((HC.out W hS).1.1)) ?_
                refine Each.val 14 (.pointer (some ⟨w.heap.size + 1 + 1, 0, none⟩)) (by kernel_rfl) (by kernel_rfl) (by kernel_rfl) (fun _ => rfl) (fun W hS _ => fa46_0 rfl (by kernel_rfl)) ?_
                refine Each.val 15 (.int .i64 (j1 : Nat)) (by kernel_rfl) (by kernel_rfl) (by kernel_rfl) (fun _ => rfl) (fun W hS _ => ld3 rfl (by kernel_rfl) ((HC.out W hS).2.2.1.1)) ?_
                refine Each.val 16 (.pointer (some ⟨b1, o1 + j1, none⟩)) (by kernel_rfl) (by kernel_rfl) (by kernel_rfl) (fun _ => rfl) (fun W hS _ => ix22 (c := g.sc) rfl (by kernel_rfl) (by kernel_rfl) ((hjn1)) rfl) ?_
                refine Each.val 17 (.string (S1 j1)) (by kernel_rfl) (by kernel_rfl) (by kernel_rfl) (fun _ => rfl) (fun W hS _ => ld9 rfl (by kernel_rfl) ((HC.out W hS).2.1.1)) ?_
                refine Each.val 18 (.pointer (some ⟨w.heap.size + 1, 0, none⟩)) (by kernel_rfl) (by kernel_rfl) (by kernel_rfl) (fun _ => rfl) (fun W hS _ => fa27_0 rfl (by kernel_rfl)) ?_
                refine Each.val 19 (.slice (some ⟨b2, o2, none⟩) h.sorts.length h.sc) (by kernel_rfl) (by kernel_rfl) (by kernel_rfl) (fun _ => rfl) (fun W hS _ => ld22 rfl (by kernel_rfl) ((HC.out W hS).1.2)) ?_
                refine Each.val 20 (.pointer (some ⟨w.heap.size + 1 + 1 + 1, 0, none⟩)) (by kernel_rfl) (by kernel_rfl) (by kernel_rfl) (fun _ => rfl) (fun W hS _ => fa46_0 rfl (by kernel_rfl)) ?_
                refine Each.val 21 (.int .i64 (j2 : Nat)) (by kernel_rfl) (by kernel_rfl) (by kernel_rfl) (fun _ => rfl) (fun W hS _ => ld3 rfl (by kernel_rfl) ((HC.out W hS).2.2.2.1)) ?_
                refine Each.val 22 (.pointer (some ⟨b2, o2 + j2, none⟩)) (by kernel_rfl) (by kernel_rfl) (by kernel_rfl) (fun _ => rfl) (fun W hS _ => ix22 (c := h.sc) rfl (by kernel_rfl) (by kernel_rfl) ((hjn2)) rfl) ?_
                refine Each.val 23 (.string (S2 j2)) (by kernel_rfl) (by kernel_rfl) (by kernel_rfl) (fun _ => rfl) (fun W hS _ => ld9 rfl (by kernel_rfl) ((HC.out W hS).2.1.2)) ?_
                refine Each.val 24 (.bool false) (by kernel_rfl) (by kernel_rfl) (by kernel_rfl) (fun _ => rfl) (fun W hS _ => ex_neq9 rfl (by kernel_rfl) (by kernel_rfl) (t0)) ?_
                refine Each.val 25 (.bool false) (by kernel_rfl) (by kernel_rfl) (by kernel_rfl) (fun _ => rfl) (fun _ _ _ => by kernel_rfl) ?_
                refine Each.val 26 (.pointer (some ⟨w.heap.size + 1 + 1, 2, none⟩)) (by kernel_rfl) (by kernel_rfl) (by kernel_rfl) (fun _ => rfl) (fun W hS _ => fa46_2 rfl (by kernel_rfl)) ?_
                refine Each.val 27 (.string x.cons) (by kernel_rfl) (by kernel_rfl) (by kernel_rfl) (fun _ => rfl) (fun W hS _ => ld9 rfl (by kernel_rfl) ((HC.out W hS).2.2.1.2.2.1)) ?_
                refine Each.val 28 (.pointer (some ⟨w.heap.size + 1 + 1 + 1, 2, none⟩)) (by kernel_rfl) (by kernel_rfl) (by kernel_rfl) (fun _ => rfl) (fun W hS _ => fa46_2 rfl (by kernel_rfl)) ?_
                refine Each.val 29 (.string q.cons) (by kernel_rfl) (by kernel_rfl) (by kernel_rfl) (fun _ => rfl) (fun W hS _ => ld9 rfl (by kernel_rfl) ((HC.out W hS).2.2.2.2.2.1)) ?_
                refine Each.val 30 (.bool false) (by kernel_rfl) (by kernel_rfl) (by kernel_rfl) (fun _ => rfl) (fun W hS _ => ex_neq9 rfl (by kernel_rfl) (by kernel_rfl) (t1)) ?_
                refine Each.val 31 (.bool false) (by kernel_rfl) (by kernel_rfl) (by kernel_rfl) (fun _ => rfl) (fun _ _ _ => by kernel_rfl) ?_
                refine Each.val 32 (.bool false) (by kernel_rfl) (by kernel_rfl) (by kernel_rfl) (fun _ => rfl) (fun _ _ _ => by kernel_rfl) ?_
                refine Each.val 33 (.pointer (some ⟨w.heap.size + 1 + 1, 3, none⟩)) (by kernel_rfl) (by kernel_rfl) (by kernel_rfl) (fun _ => rfl) (fun W hS _ => fa46_3 rfl (by kernel_rfl)) ?_
                refine Each.val 34 (.int .i64 x.role) (by kernel_rfl) (by kernel_rfl) (by kernel_rfl) (fun _ => rfl) (fun W hS _ => ld44 rfl (by kernel_rfl) ((HC.out W hS).2.2.1.2.2.2.1)) ?_
                refine Each.val 35 (.pointer (some ⟨w.heap.size + 1 + 1 + 1, 3, none⟩)) (by kernel_rfl) (by kernel_rfl) (by kernel_rfl) (fun _ => rfl) (fun W hS _ => fa46_3 rfl (by kernel_rfl)) ?_
                refine Each.val 36 (.int .i64 q.role) (by kernel_rfl) (by kernel_rfl) (by kernel_rfl) (fun _ => rfl) (fun W hS _ => ld44 rfl (by kernel_rfl) ((HC.out W hS).2.2.2.2.2.2.1)) ?_
                refine Each.val 37 (.bool false) (by kernel_rfl) (by kernel_rfl) (by kernel_rfl) (fun _ => rfl) (fun W hS _ => ex_neq44 rfl (by kernel_rfl) (by kernel_rfl) (t2)) ?_
                refine Each.val 38 (.bool false) (by kernel_rfl) (by kernel_rfl) (by kernel_rfl) (fun _ => rfl) (fun _ _ _ => by kernel_rfl) ?_
                refine Each.val 39 (.bool false) (by kernel_rfl) (by kernel_rfl) (by kernel_rfl) (fun _ => rfl) (fun _ _ _ => by kernel_rfl) ?_
                refine Each.val 40 (.pointer (some ⟨w.heap.size + 1 + 1, 1, none⟩)) (by kernel_rfl) (by kernel_rfl) (by kernel_rfl) (fun _ => rfl) (fun W hS _ => fa46_1 rfl (by kernel_rfl)) ?_
                refine Each.val 41 (.slice ra1 x.right.length x.rc) (by kernel_rfl) (by kernel_rfl) (by kernel_rfl) (fun _ => rfl) (fun W hS _ => ld43 rfl (by kernel_rfl) ((HC.out W hS).2.2.1.2.1)) ?_
                refine Each.val 42 (.int .i64 (x.right.length : Nat)) (by kernel_rfl) (by kernel_rfl) (by kernel_rfl) (fun _ => rfl) (fun W hS _ => len43 (a := ra1) (c := x.rc) rfl (by kernel_rfl)) ?_
                refine Each.val 43 (.pointer (some ⟨w.heap.size + 1 + 1 + 1, 1, none⟩)) (by kernel_rfl) (by kernel_rfl) (by kernel_rfl) (fun _ => rfl) (fun W hS _ => fa46_1 rfl (by kernel_rfl)) ?_
                refine Each.val 44 (.slice ra2 q.right.length q.rc) (by kernel_rfl) (by kernel_rfl) (by kernel_rfl) (fun _ => rfl) (fun W hS _ => ld43 rfl (by kernel_rfl) ((HC.out W hS).2.2.2.2.1)) ?_
                refine Each.val 45 (.int .i64 (q.right.length : Nat)) (by kernel_rfl) (by kernel_rfl) (by kernel_rfl) (fun _ => rfl) (fun W hS _ => len43 (a := ra2) (c := q.rc) rfl (by kernel_rfl)) ?_
                refine Each.val 46 (.bool false) (by kernel_rfl) (by kernel_rfl) (by kernel_rfl) (fun _ => rfl) (fun W hS _ => ex_neq3 rfl (by kernel_rfl) (by kernel_rfl) (t3)) ?_
                refine Each.val 47 (.bool false) (by kernel_rfl) (by kernel_rfl) (by kernel_rfl) (fun _ => rfl) (fun _ _ _ => by kernel_rfl) ?_
                refine Each.val 48 (.bool false) (by kernel_rfl) (by kernel_rfl) (by kernel_rfl) (fun _ => rfl) (fun _ _ _ => by kernel_rfl) ?_
                refine Each.val 49 (.pointer (some ⟨w.heap.size + 1 + 1, 6, none⟩)) (by kernel_rfl) (by kernel_rfl) (by kernel_rfl) (fun _ => rfl) (fun W hS _ => fa46_6 rfl (by kernel_rfl)) ?_
                refine Each.val 50 (.int .i64 x.frm) (by kernel_rfl) (by kernel_rfl) (by kernel_rfl) (fun _ => rfl) (fun W hS _ => ld3 rfl (by kernel_rfl) ((HC.out W hS).2.2.1.2.2.2.2.2.2)) ?_
                refine Each.val 51 (.pointer (some ⟨w.heap.size + 1 + 1 + 1, 6, none⟩)) (by kernel_rfl) (by kernel_rfl) (by kernel_rfl) (fun _ => rfl) (fun W hS _ => fa46_6 rfl (by kernel_rfl)) ?_
                refine Each.val 52 (.int .i64 q.frm) (by kernel_rfl) (by kernel_rfl) (by kernel_rfl) (fun _ => rfl) (fun W hS _ => ld3 rfl (by kernel_rfl) ((HC.out W hS).2.2.2.2.2.2.2.2.2)) ?_
                refine Each.val 53 (.bool false) (by kernel_rfl) (by kernel_rfl) (by kernel_rfl) (fun _ => rfl) (fun W hS _ => ex_neq3 rfl (by kernel_rfl) (by kernel_rfl) (t4)) ?_
                refine Each.val 54 (.bool false) (by kernel_rfl) (by kernel_rfl) (by kernel_rfl) (fun _ => rfl) (fun _ _ _ => by kernel_rfl) ?_
                refine Each.val 55 (.bool false) (by kernel_rfl) (by kernel_rfl) (by kernel_rfl) (fun _ => rfl) (fun _ _ _ => by kernel_rfl) ?_
                refine Each.val 56 (.pointer (some ⟨w.heap.size + 1 + 1, 4, none⟩)) (by kernel_rfl) (by kernel_rfl) (by kernel_rfl) (fun _ => rfl) (fun W hS _ => fa46_4 rfl (by kernel_rfl)) ?_
                refine Each.val 57 (.bool x.prefer) (by kernel_rfl) (by kernel_rfl) (by kernel_rfl) (fun _ => rfl) (fun W hS _ => ld4 rfl (by kernel_rfl) ((HC.out W hS).2.2.1.2.2.2.2.1)) ?_
                refine Each.val 58 (.pointer (some ⟨w.heap.size + 1 + 1 + 1, 4, none⟩)) (by kernel_rfl) (by kernel_rfl) (by kernel_rfl) (fun _ => rfl) (fun W hS _ => fa46_4 rfl (by kernel_rfl)) ?_
                refine Each.val 59 (.bool q.prefer) (by kernel_rfl) (by kernel_rfl) (by kernel_rfl) (fun _ => rfl) (fun W hS _ => ld4 rfl (by kernel_rfl) ((HC.out W hS).2.2.2.2.2.2.2.1)) ?_
                refine Each.val 60 (.bool true) (by kernel_rfl) (by kernel_rfl) (by kernel_rfl) (fun _ => rfl) (fun W hS _ => ex_neq4 rfl (by kernel_rfl) (by kernel_rfl) (t5)) ?_
                refine Each.val 61 (.bool true) (by kernel_rfl) (by kernel_rfl) (by kernel_rfl) (fun _ => rfl) (fun _ _ _ => by kernel_rfl) ?_
                refine Each.val 62 (.bool true) (by kernel_rfl) (by kernel_rfl) (by kernel_rfl) (fun _ => rfl) (fun _ _ _ => by kernel_rfl) ?_
                refine Each.off 63 (by kernel_rfl) (by kernel_rfl) (by kernel_rfl) ?_
                refine Each.off 64 (by kernel_rfl) (by kernel_rfl) (by kernel_rfl) ?_
                refine Each.off 65 (by kernel_rfl) (by kernel_rfl) (by kernel_rfl) ?_
                refine Each.off 66 (by kernel_rfl) (by kernel_rfl) (by kernel_rfl) ?_
                refine Each.off 67 (by kernel_rfl) (by kernel_rfl) (by kernel_rfl) ?_
                refine Each.val 68 (.bool true) (by kernel_rfl) (by kernel_rfl) (by kernel_rfl) (fun _ => rfl) (fun _ _ _ => by kernel_rfl) ?_
                exact trivial
              · intro w5 hS5
                obtain rfl : w5 = W4.drew := hS5
                go_wp2
                go_ret
                exact ⟨by rw [HE.out]; try rfl, K0.out.bl.drew⟩
            | true =>
              cases t6 : (x.avoid == q.avoid) with
              | false =>
                have HE : Hid (r = false) := Lib.hid (by rw [HE0.out, HRs.out, t0, t1, t2, t3, t4, t5, t6]; rfl)
                refine wp_region_vals0 (N := fun w w' => w' = w) (S := fun W => W = W4.drew)
                  [.pointer (some ⟨w.heap.size, 0, none⟩), .slice (some ⟨b1, o1, none⟩) g.sorts.length g.sc, .pointer (some ⟨w.heap.size + 1 + 1, 0, none⟩), .int .i64 (j1 : Nat), .pointer (some ⟨b1, o1 + j1, none⟩), .string (S1 j1), .pointer (some ⟨w.heap.size + 1, 0, none⟩), .slice (some ⟨b2, o2, none⟩) h.sorts.length h.sc, .pointer (some ⟨w.heap.size + 1 + 1 + 1, 0, none⟩), .int .i64 (j2 : Nat), .pointer (some ⟨b2, o2 + j2, none⟩), .string (S2 j2), .bool false, .bool false, .pointer (some ⟨w.heap.size + 1 + 1, 2, none⟩), .string x.cons, .pointer (some ⟨w.heap.size + 1 + 1 + 1, 2, none⟩), .string q.cons, .bool false, .bool false, .bool false, .pointer (some ⟨w.heap.size + 1 + 1, 3, none⟩), .int .i64 x.role, .pointer (some ⟨w.heap.size + 1 + 1 + 1, 3, none⟩), .int .i64 q.role, .bool false, .bool false, .bool false, .pointer (some ⟨w.heap.size + 1 + 1, 1, none⟩), .slice ra1 x.right.length x.rc, .int .i64 (x.right.length : Nat), .pointer (some ⟨w.heap.size + 1 + 1 + 1, 1, none⟩), .slice ra2 q.right.length q.rc, .int .i64 (q.right.length : Nat), .bool false, .bool false, .bool false, .pointer (some ⟨w.heap.size + 1 + 1, 6, none⟩), .int .i64 x.frm, .pointer (some ⟨w.heap.size + 1 + 1 + 1, 6, none⟩), .int .i64 q.frm, .bool false, .bool false, .bool false, .pointer (some ⟨w.heap.size + 1 + 1, 4, none⟩), .bool x.prefer, .pointer (some ⟨w.heap.size + 1 + 1 + 1, 4, none⟩), .bool q.prefer, .bool false, .bool false, .bool false, .pointer (some ⟨w.heap.size + 1 + 1, 5, none⟩), .bool x.avoid, .pointer (some ⟨w.heap.size + 1 + 1 + 1, 5, none⟩), .bool q.avoid, .bool true, .bool true]
                  #[.agg #[.slice (some ⟨b1, o1, none⟩) g.sorts.length g.sc, .slice g.pa g.prods.length g.pc, .int .i64 g.start, .slice g.fa g.forbid.length g.fc, .slice g.wa g.follow.length g.wc], .agg #[.slice (some ⟨b2, o2, none⟩) h.sorts.length h.sc, .slice h.pa h.prods.length h.pc, .int .i64 h.start, .slice h.fa h.forbid.length h.fc, .slice h.wa h.follow.length h.wc], .agg #[.int .i64 (j1 : Nat), .slice ra1 x.right.length x.rc, .string x.cons, .int .i64 x.role, .bool x.prefer, .bool x.avoid, .int .i64 x.frm], .agg #[.int .i64 (j2 : Nat), .slice ra2 q.right.length q.rc, .string q.cons, .int .i64 q.role, .bool q.prefer, .bool q.avoid, .int .i64 q.frm], .pointer (some ⟨w.heap.size, 0, none⟩), .pointer (some ⟨w.heap.size + 1, 0, none⟩), .pointer (some ⟨w.heap.size + 1 + 1, 0, none⟩), .pointer (some ⟨w.heap.size + 1 + 1 + 1, 0, none⟩), .bool false, undef, undef, undef, .pointer (some ⟨w.heap.size, 0, none⟩), .slice (some ⟨b1, o1, none⟩) g.sorts.length g.sc, .pointer (some ⟨w.heap.size + 1 + 1, 0, none⟩), .int .i64 (j1 : Nat), .pointer (some ⟨b1, o1 + j1, none⟩), .string (S1 j1), .pointer (some ⟨w.heap.size + 1, 0, none⟩), .slice (some ⟨b2, o2, none⟩) h.sorts.length h.sc, .pointer (some ⟨w.heap.size + 1 + 1 + 1, 0, none⟩), .int .i64 (j2 : Nat), .pointer (some ⟨b2, o2 + j2, none⟩), .string (S2 j2), .bool false, .bool false, .pointer (some ⟨w.heap.size + 1 + 1, 2, none⟩), .string x.cons, .pointer (some ⟨w.heap.size + 1 + 1 + 1, 2, none⟩), .string q.cons, .bool false, .bool false, .bool false, .pointer (some ⟨w.heap.size + 1 + 1, 3, none⟩), .int .i64 x.role, .pointer (some ⟨w.heap.size + 1 + 1 + 1, 3, none⟩), .int .i64 q.role, .bool false, .bool false, .bool false, .pointer (some ⟨w.heap.size + 1 + 1, 1, none⟩), .slice ra1 x.right.length x.rc, .int .i64 (x.right.length : Nat), .pointer (some ⟨w.heap.size + 1 + 1 + 1, 1, none⟩), .slice ra2 q.right.length q.rc, .int .i64 (q.right.length : Nat), .bool false, .bool false, .bool false, .pointer (some ⟨w.heap.size + 1 + 1, 6, none⟩), .int .i64 x.frm, .pointer (some ⟨w.heap.size + 1 + 1 + 1, 6, none⟩), .int .i64 q.frm, .bool false, .bool false, .bool false, .pointer (some ⟨w.heap.size + 1 + 1, 4, none⟩), .bool x.prefer, .pointer (some ⟨w.heap.size + 1 + 1 + 1, 4, none⟩), .bool q.prefer, .bool false, .bool false, .bool false, .pointer (some ⟨w.heap.size + 1 + 1, 5, none⟩), .bool x.avoid, .pointer (some ⟨w.heap.size + 1 + 1 + 1, 5, none⟩), .bool q.avoid, .bool true, .bool true, undef, undef, undef, undef, undef, undef, undef, undef, undef, undef, undef, undef, undef, undef, undef, undef, undef, undef, undef, undef, undef, undef, undef, undef, undef, undef, undef, undef, undef, undef, undef, undef, undef, undef, undef, undef, undef, undef, undef, undef, undef, undef, undef, undef, undef, undef, undef, undef, undef]
                  rfl (by kernel_rfl) (by kernel_rfl) (by kernel_rfl) (fun _ => rfl) rfl (fun _ _ h h2 => h2.trans h) ?_ ?_
                · refine Each.val 12 (.pointer (some ⟨w.heap.size, 0, none⟩)) (by kernel_rfl) (by kernel_rfl) (by kernel_rfl) (fun _ => rfl) (fun W hS _ => fa27_0 rfl (by kernel_rfl)) ?_
                  refine Each.val 13 (.slice (some ⟨b1, o1, none⟩) g.sorts.length g.sc) (by kernel_rfl) (by kernel_rfl) (by kernel_rfl) (fun _ => rfl) (fun W hS _ => ld22 rfl (by kernel_rfl) ((HC.out W hS).1.1)) ?_
                  refine Each.val 14 (.pointer (some ⟨w.heap.size + 1 + 1, 0, none⟩)) (by kernel_rfl) (by kernel_rfl) (by kernel_rfl) (fun _ => rfl) (fun W hS _ => fa46_0 rfl (by kernel_rfl)) ?_
                  refine Each.val 15 (.int .i64 (j1 : Nat)) (by kernel_rfl) (by kernel_rfl) (by kernel_rfl) (fun _ => rfl) (fun W hS _ => ld3 rfl (by kernel_rfl) ((HC.out W hS).2.2.1.1)) ?_
                  refine Each.val 16 (.pointer (some ⟨b1, o1 + j1, none⟩)) (by kernel_rfl) (by kernel_rfl) (by kernel_rfl) (fun _ => rfl) (fun W hS _ => ix22 (c := g.sc) rfl (by kernel_rfl) (by kernel_rfl) ((hjn1)) rfl) ?_
                  refine Each.val 17 (.string (S1 j1)) (by kernel_rfl) (by kernel_rfl) (by kernel_rfl) (fun _ => rfl) (fun W hS _ => ld9 rfl (by kernel_rfl) ((HC.out W hS).2.1.1)) ?_
                  refine Each.val 18 (.pointer (some ⟨w.heap.size + 1, 0, none⟩)) (by kernel_rfl) (by kernel_rfl) (by kernel_rfl) (fun _ => rfl) (fun W hS _ => fa27_0 rfl (by kernel_rfl)) ?_
                  refine Each.val 19 (.slice (some ⟨b2, o2, none⟩) h.sorts.length h.sc) (by kernel_rfl) (by kernel_rfl) (by kernel_rfl) (fun _ => rfl) (fun W hS _ => ld22 rfl (by kernel_rfl) ((HC.out W hS).1.2)) ?_
                  refine Each.val 20 (.pointer (some ⟨w.heap.size + 1 + 1 + 1, 0, none⟩)) (by kernel_rfl) (by kernel_rfl) (by kernel_rfl) (fun _ => rfl) (fun W hS _ => fa46_0 rfl (by kernel_rfl)) ?_
                  refine Each.val 21 (.int .i64 (j2 : Nat)) (by kernel_rfl) (by kernel_rfl) (by kernel_rfl) (fun _ => rfl) (fun W hS _ => ld3 rfl (by kernel_rfl) ((HC.out W hS).2.2.2.1)) ?_
                  refine Each.val 22 (.pointer (some ⟨b2, o2 + j2, none⟩)) (by kernel_rfl) (by kernel_rfl) (by kernel_rfl) (fun _ => rfl) (fun W hS _ => ix22 (c := h.sc) rfl (by kernel_rfl) (by kernel_rfl) ((hjn2)) rfl) ?_
                  refine Each.val 23 (.string (S2 j2)) (by kernel_rfl) (by kernel_rfl) (by kernel_rfl) (fun _ => rfl) (fun W hS _ => ld9 rfl (by kernel_rfl) ((HC.out W hS).2.1.2)) ?_
                  refine Each.val 24 (.bool false) (by kernel_rfl) (by kernel_rfl) (by kernel_rfl) (fun _ => rfl) (fun W hS _ => ex_neq9 rfl (by kernel_rfl) (by kernel_rfl) (t0)) ?_
                  refine Each.val 25 (.bool false) (by kernel_rfl) (by kernel_rfl) (by kernel_rfl) (fun _ => rfl) (fun _ _ _ => by kernel_rfl) ?_
                  refine Each.val 26 (.pointer (some ⟨w.heap.size + 1 + 1, 2, none⟩)) (by kernel_rfl) (by kernel_rfl) (by kernel_rfl) (fun _ => rfl) (fun W hS _ => fa46_2 rfl (by kernel_rfl)) ?_
                  refine Each.val 27 (.string x.cons) (by kernel_rfl) (by kernel_rfl) (by kernel_rfl) (fun _ => rfl) (fun W hS _ => ld9 rfl (by kernel_rfl) ((HC.out W hS).2.2.1.2.2.1)) ?_
                  refine Each.val 28 (.pointer (some ⟨w.heap.size + 1 + 1 + 1, 2, none⟩)) (by kernel_rfl) (by kernel_rfl) (by kernel_rfl) (fun _ => rfl) (fun W hS _ => fa46_2 rfl (by kernel_rfl)) ?_
                  refine Each.val 29 (.string q.cons) (by kernel_rfl) (by kernel_rfl) (by kernel_rfl) (fun _ => rfl) (fun W hS _ => ld9 rfl (by kernel_rfl) ((HC.out W hS).2.2.2.2.2.1)) ?_
                  refine Each.val 30 (.bool false) (by kernel_rfl) (by kernel_rfl) (by kernel_rfl) (fun _ => rfl) (fun W hS _ => ex_neq9 rfl (by kernel_rfl) (by kernel_rfl) (t1)) ?_
                  refine Each.val 31 (.bool false) (by kernel_rfl) (by kernel_rfl) (by kernel_rfl) (fun _ => rfl) (fun _ _ _ => by kernel_rfl) ?_
                  refine Each.val 32 (.bool false) (by kernel_rfl) (by kernel_rfl) (by kernel_rfl) (fun _ => rfl) (fun _ _ _ => by kernel_rfl) ?_
                  refine Each.val 33 (.pointer (some ⟨w.heap.size + 1 + 1, 3, none⟩)) (by kernel_rfl) (by kernel_rfl) (by kernel_rfl) (fun _ => rfl) (fun W hS _ => fa46_3 rfl (by kernel_rfl)) ?_
                  refine Each.val 34 (.int .i64 x.role) (by kernel_rfl) (by kernel_rfl) (by kernel_rfl) (fun _ => rfl) (fun W hS _ => ld44 rfl (by kernel_rfl) ((HC.out W hS).2.2.1.2.2.2.1)) ?_
                  refine Each.val 35 (.pointer (some ⟨w.heap.size + 1 + 1 + 1, 3, none⟩)) (by kernel_rfl) (by kernel_rfl) (by kernel_rfl) (fun _ => rfl) (fun W hS _ => fa46_3 rfl (by kernel_rfl)) ?_
                  refine Each.val 36 (.int .i64 q.role) (by kernel_rfl) (by kernel_rfl) (by kernel_rfl) (fun _ => rfl) (fun W hS _ => ld44 rfl (by kernel_rfl) ((HC.out W hS).2.2.2.2.2.2.1)) ?_
                  refine Each.val 37 (.bool false) (by kernel_rfl) (by kernel_rfl) (by kernel_rfl) (fun _ => rfl) (fun W hS _ => ex_neq44 rfl (by kernel_rfl) (by kernel_rfl) (t2)) ?_
                  refine Each.val 38 (.bool false) (by kernel_rfl) (by kernel_rfl) (by kernel_rfl) (fun _ => rfl) (fun _ _ _ => by kernel_rfl) ?_
                  refine Each.val 39 (.bool false) (by kernel_rfl) (by kernel_rfl) (by kernel_rfl) (fun _ => rfl) (fun _ _ _ => by kernel_rfl) ?_
                  refine Each.val 40 (.pointer (some ⟨w.heap.size + 1 + 1, 1, none⟩)) (by kernel_rfl) (by kernel_rfl) (by kernel_rfl) (fun _ => rfl) (fun W hS _ => fa46_1 rfl (by kernel_rfl)) ?_
                  refine Each.val 41 (.slice ra1 x.right.length x.rc) (by kernel_rfl) (by kernel_rfl) (by kernel_rfl) (fun _ => rfl) (fun W hS _ => ld43 rfl (by kernel_rfl) ((HC.out W hS).2.2.1.2.1)) ?_
                  refine Each.val 42 (.int .i64 (x.right.length : Nat)) (by kernel_rfl) (by kernel_rfl) (by kernel_rfl) (fun _ => rfl) (fun W hS _ => len43 (a := ra1) (c := x.rc) rfl (by kernel_rfl)) ?_
                  refine Each.val 43 (.pointer (some ⟨w.heap.size + 1 + 1 + 1, 1, none⟩)) (by kernel_rfl) (by kernel_rfl) (by kernel_rfl) (fun _ => rfl) (fun W hS _ => fa46_1 rfl (by kernel_rfl)) ?_
                  refine Each.val 44 (.slice ra2 q.right.length q.rc) (by kernel_rfl) (by kernel_rfl) (by kernel_rfl) (fun _ => rfl) (fun W hS _ => ld43 rfl (by kernel_rfl) ((HC.out W hS).2.2.2.2.1)) ?_
                  refine Each.val 45 (.int .i64 (q.right.length : Nat)) (by kernel_rfl) (by kernel_rfl) (by kernel_rfl) (fun _ => rfl) (fun W hS _ => len43 (a := ra2) (c := q.rc) rfl (by kernel_rfl)) ?_
                  refine Each.val 46 (.bool false) (by kernel_rfl) (by kernel_rfl) (by kernel_rfl) (fun _ => rfl) (fun W hS _ => ex_neq3 rfl (by kernel_rfl) (by kernel_rfl) (t3)) ?_
                  refine Each.val 47 (.bool false) (by kernel_rfl) (by kernel_rfl) (by kernel_rfl) (fun _ => rfl) (fun _ _ _ => by kernel_rfl) ?_
                  refine Each.val 48 (.bool false) (by kernel_rfl) (by kernel_rfl) (by kernel_rfl) (fun _ => rfl) (fun _ _ _ => by kernel_rfl) ?_
                  refine Each.val 49 (.pointer (some ⟨w.heap.size + 1 + 1, 6, none⟩)) (by kernel_rfl) (by kernel_rfl) (by kernel_rfl) (fun _ => rfl) (fun W hS _ => fa46_6 rfl (by kernel_rfl)) ?_
                  refine Each.val 50 (.int .i64 x.frm) (by kernel_rfl) (by kernel_rfl) (by kernel_rfl) (fun _ => rfl) (fun W hS _ => ld3 rfl (by kernel_rfl) ((HC.out W hS).2.2.1.2.2.2.2.2.2)) ?_
                  refine Each.val 51 (.pointer (some ⟨w.heap.size + 1 + 1 + 1, 6, none⟩)) (by kernel_rfl) (by kernel_rfl) (by kernel_rfl) (fun _ => rfl) (fun W hS _ => fa46_6 rfl (by kernel_rfl)) ?_
                  refine Each.val 52 (.int .i64 q.frm) (by kernel_rfl) (by kernel_rfl) (by kernel_rfl) (fun _ => rfl) (fun W hS _ => ld3 rfl (by kernel_rfl) ((HC.out W hS).2.2.2.2.2.2.2.2.2)) ?_
                  refine Each.val 53 (.bool false) (by kernel_rfl) (by kernel_rfl) (by kernel_rfl) (fun _ => rfl) (fun W hS _ => ex_neq3 rfl (by kernel_rfl) (by kernel_rfl) (t4)) ?_
                  refine Each.val 54 (.bool false) (by kernel_rfl) (by kernel_rfl) (by kernel_rfl) (fun _ => rfl) (fun _ _ _ => by kernel_rfl) ?_
                  refine Each.val 55 (.bool false) (by kernel_rfl) (by kernel_rfl) (by kernel_rfl) (fun _ => rfl) (fun _ _ _ => by kernel_rfl) ?_
                  refine Each.val 56 (.pointer (some ⟨w.heap.size + 1 + 1, 4, none⟩)) (by kernel_rfl) (by kernel_rfl) (by kernel_rfl) (fun _ => rfl) (fun W hS _ => fa46_4 rfl (by kernel_rfl)) ?_
                  refine Each.val 57 (.bool x.prefer) (by kernel_rfl) (by kernel_rfl) (by kernel_rfl) (fun _ => rfl) (fun W hS _ => ld4 rfl (by kernel_rfl) ((HC.out W hS).2.2.1.2.2.2.2.1)) ?_
                  refine Each.val 58 (.pointer (some ⟨w.heap.size + 1 + 1 + 1, 4, none⟩)) (by kernel_rfl) (by kernel_rfl) (by kernel_rfl) (fun _ => rfl) (fun W hS _ => fa46_4 rfl (by kernel_rfl)) ?_
                  refine Each.val 59 (.bool q.prefer) (by kernel_rfl) (by kernel_rfl) (by kernel_rfl) (fun _ => rfl) (fun W hS _ => ld4 rfl (by kernel_rfl) ((HC.out W hS).2.2.2.2.2.2.2.1)) ?_
                  refine Each.val 60 (.bool false) (by kernel_rfl) (by kernel_rfl) (by kernel_rfl) (fun _ => rfl) (fun W hS _ => ex_neq4 rfl (by kernel_rfl) (by kernel_rfl) (t5)) ?_
                  refine Each.val 61 (.bool false) (by kernel_rfl) (by kernel_rfl) (by kernel_rfl) (fun _ => rfl) (fun _ _ _ => by kernel_rfl) ?_
                  refine Each.val 62 (.bool false) (by kernel_rfl) (by kernel_rfl) (by kernel_rfl) (fun _ => rfl) (fun _ _ _ => by kernel_rfl) ?_
                  refine Each.val 63 (.pointer (some ⟨w.heap.size + 1 + 1, 5, none⟩)) (by kernel_rfl) (by kernel_rfl) (by kernel_rfl) (fun _ => rfl) (fun W hS _ => fa46_5 rfl (by kernel_rfl)) ?_
                  refine Each.val 64 (.bool x.avoid) (by kernel_rfl) (by kernel_rfl) (by kernel_rfl) (fun _ => rfl) (fun W hS _ => ld4 rfl (by kernel_rfl) ((HC.out W hS).2.2.1.2.2.2.2.2.1)) ?_
                  refine Each.val 65 (.pointer (some ⟨w.heap.size + 1 + 1 + 1, 5, none⟩)) (by kernel_rfl) (by kernel_rfl) (by kernel_rfl) (fun _ => rfl) (fun W hS _ => fa46_5 rfl (by kernel_rfl)) ?_
                  refine Each.val 66 (.bool q.avoid) (by kernel_rfl) (by kernel_rfl) (by kernel_rfl) (fun _ => rfl) (fun W hS _ => ld4 rfl (by kernel_rfl) ((HC.out W hS).2.2.2.2.2.2.2.2.1)) ?_
                  refine Each.val 67 (.bool true) (by kernel_rfl) (by kernel_rfl) (by kernel_rfl) (fun _ => rfl) (fun W hS _ => ex_neq4 rfl (by kernel_rfl) (by kernel_rfl) (t6)) ?_
                  refine Each.val 68 (.bool true) (by kernel_rfl) (by kernel_rfl) (by kernel_rfl) (fun _ => rfl) (fun _ _ _ => by kernel_rfl) ?_
                  exact trivial
                · intro w5 hS5
                  obtain rfl : w5 = W4.drew := hS5
                  go_wp2
                  go_ret
                  exact ⟨by rw [HE.out]; try rfl, K0.out.bl.drew⟩
              | true =>
                refine wp_region_vals0 (N := fun w w' => w' = w) (S := fun W => W = W4.drew)
                  [.pointer (some ⟨w.heap.size, 0, none⟩), .slice (some ⟨b1, o1, none⟩) g.sorts.length g.sc, .pointer (some ⟨w.heap.size + 1 + 1, 0, none⟩), .int .i64 (j1 : Nat), .pointer (some ⟨b1, o1 + j1, none⟩), .string (S1 j1), .pointer (some ⟨w.heap.size + 1, 0, none⟩), .slice (some ⟨b2, o2, none⟩) h.sorts.length h.sc, .pointer (some ⟨w.heap.size + 1 + 1 + 1, 0, none⟩), .int .i64 (j2 : Nat), .pointer (some ⟨b2, o2 + j2, none⟩), .string (S2 j2), .bool false, .bool false, .pointer (some ⟨w.heap.size + 1 + 1, 2, none⟩), .string x.cons, .pointer (some ⟨w.heap.size + 1 + 1 + 1, 2, none⟩), .string q.cons, .bool false, .bool false, .bool false, .pointer (some ⟨w.heap.size + 1 + 1, 3, none⟩), .int .i64 x.role, .pointer (some ⟨w.heap.size + 1 + 1 + 1, 3, none⟩), .int .i64 q.role, .bool false, .bool false, .bool false, .pointer (some ⟨w.heap.size + 1 + 1, 1, none⟩), .slice ra1 x.right.length x.rc, .int .i64 (x.right.length : Nat), .pointer (some ⟨w.heap.size + 1 + 1 + 1, 1, none⟩), .slice ra2 q.right.length q.rc, .int .i64 (q.right.length : Nat), .bool false, .bool false, .bool false, .pointer (some ⟨w.heap.size + 1 + 1, 6, none⟩), .int .i64 x.frm, .pointer (some ⟨w.heap.size + 1 + 1 + 1, 6, none⟩), .int .i64 q.frm, .bool false, .bool false, .bool false, .pointer (some ⟨w.heap.size + 1 + 1, 4, none⟩), .bool x.prefer, .pointer (some ⟨w.heap.size + 1 + 1 + 1, 4, none⟩), .bool q.prefer, .bool false, .bool false, .bool false, .pointer (some ⟨w.heap.size + 1 + 1, 5, none⟩), .bool x.avoid, .pointer (some ⟨w.heap.size + 1 + 1 + 1, 5, none⟩), .bool q.avoid, .bool false, .bool false]
                  #[.agg #[.slice (some ⟨b1, o1, none⟩) g.sorts.length g.sc, .slice g.pa g.prods.length g.pc, .int .i64 g.start, .slice g.fa g.forbid.length g.fc, .slice g.wa g.follow.length g.wc], .agg #[.slice (some ⟨b2, o2, none⟩) h.sorts.length h.sc, .slice h.pa h.prods.length h.pc, .int .i64 h.start, .slice h.fa h.forbid.length h.fc, .slice h.wa h.follow.length h.wc], .agg #[.int .i64 (j1 : Nat), .slice ra1 x.right.length x.rc, .string x.cons, .int .i64 x.role, .bool x.prefer, .bool x.avoid, .int .i64 x.frm], .agg #[.int .i64 (j2 : Nat), .slice ra2 q.right.length q.rc, .string q.cons, .int .i64 q.role, .bool q.prefer, .bool q.avoid, .int .i64 q.frm], .pointer (some ⟨w.heap.size, 0, none⟩), .pointer (some ⟨w.heap.size + 1, 0, none⟩), .pointer (some ⟨w.heap.size + 1 + 1, 0, none⟩), .pointer (some ⟨w.heap.size + 1 + 1 + 1, 0, none⟩), .bool false, undef, undef, undef, .pointer (some ⟨w.heap.size, 0, none⟩), .slice (some ⟨b1, o1, none⟩) g.sorts.length g.sc, .pointer (some ⟨w.heap.size + 1 + 1, 0, none⟩), .int .i64 (j1 : Nat), .pointer (some ⟨b1, o1 + j1, none⟩), .string (S1 j1), .pointer (some ⟨w.heap.size + 1, 0, none⟩), .slice (some ⟨b2, o2, none⟩) h.sorts.length h.sc, .pointer (some ⟨w.heap.size + 1 + 1 + 1, 0, none⟩), .int .i64 (j2 : Nat), .pointer (some ⟨b2, o2 + j2, none⟩), .string (S2 j2), .bool false, .bool false, .pointer (some ⟨w.heap.size + 1 + 1, 2, none⟩), .string x.cons, .pointer (some ⟨w.heap.size + 1 + 1 + 1, 2, none⟩), .string q.cons, .bool false, .bool false, .bool false, .pointer (some ⟨w.heap.size + 1 + 1, 3, none⟩), .int .i64 x.role, .pointer (some ⟨w.heap.size + 1 + 1 + 1, 3, none⟩), .int .i64 q.role, .bool false, .bool false, .bool false, .pointer (some ⟨w.heap.size + 1 + 1, 1, none⟩), .slice ra1 x.right.length x.rc, .int .i64 (x.right.length : Nat), .pointer (some ⟨w.heap.size + 1 + 1 + 1, 1, none⟩), .slice ra2 q.right.length q.rc, .int .i64 (q.right.length : Nat), .bool false, .bool false, .bool false, .pointer (some ⟨w.heap.size + 1 + 1, 6, none⟩), .int .i64 x.frm, .pointer (some ⟨w.heap.size + 1 + 1 + 1, 6, none⟩), .int .i64 q.frm, .bool false, .bool false, .bool false, .pointer (some ⟨w.heap.size + 1 + 1, 4, none⟩), .bool x.prefer, .pointer (some ⟨w.heap.size + 1 + 1 + 1, 4, none⟩), .bool q.prefer, .bool false, .bool false, .bool false, .pointer (some ⟨w.heap.size + 1 + 1, 5, none⟩), .bool x.avoid, .pointer (some ⟨w.heap.size + 1 + 1 + 1, 5, none⟩), .bool q.avoid, .bool false, .bool false, undef, undef, undef, undef, undef, undef, undef, undef, undef, undef, undef, undef, undef, undef, undef, undef, undef, undef, undef, undef, undef, undef, undef, undef, undef, undef, undef, undef, undef, undef, undef, undef, undef, undef, undef, undef, undef, undef, undef, undef, undef, undef, undef, undef, undef, undef, undef, undef, undef]
                  rfl (by kernel_rfl) (by kernel_rfl) (by kernel_rfl) (fun _ => rfl) rfl (fun _ _ h h2 => h2.trans h) ?_ ?_
                · refine Each.val 12 (.pointer (some ⟨w.heap.size, 0, none⟩)) (by kernel_rfl) (by kernel_rfl) (by kernel_rfl) (fun _ => rfl) (fun W hS _ => fa27_0 rfl (by kernel_rfl)) ?_
                  refine Each.val 13 (.slice (some ⟨b1, o1, none⟩) g.sorts.length g.sc) (by kernel_rfl) (by kernel_rfl) (by kernel_rfl) (fun _ => rfl) (fun W hS _ => ld22 rfl (by kernel_rfl) ((HC.out W hS).1.1)) ?_
                  refine Each.val 14 (.pointer (some ⟨w.heap.size + 1 + 1, 0, none⟩)) (by kernel_rfl) (by kernel_rfl) (by kernel_rfl) (fun _ => rfl) (fun W hS _ => fa46_0 rfl (by kernel_rfl)) ?_
                  refine Each.val 15 (.int .i64 (j1 : Nat)) (by kernel_rfl) (by kernel_rfl) (by kernel_rfl) (fun _ => rfl) (fun W hS _ => ld3 rfl (by kernel_rfl) ((HC.out W hS).2.2.1.1)) ?_
                  refine Each.val 16 (.pointer (some ⟨b1, o1 + j1, none⟩)) (by kernel_rfl) (by kernel_rfl) (by kernel_rfl) (fun _ => rfl) (fun W hS _ => ix22 (c := g.sc) rfl (by kernel_rfl) (by kernel_rfl) ((hjn1)) rfl) ?_
                  refine Each.val 17 (.string (S1 j1)) (by kernel_rfl) (by kernel_rfl) (by kernel_rfl) (fun _ => rfl) (fun W hS _ => ld9 rfl (by kernel_rfl) ((HC.out W hS).2.1.1)) ?_
                  refine Each.val 18 (.pointer (some ⟨w.heap.size + 1, 0, none⟩)) (by kernel_rfl) (by kernel_rfl) (by kernel_rfl) (fun _ => rfl) (fun W hS _ => fa27_0 rfl (by kernel_rfl)) ?_
                  refine Each.val 19 (.slice (some ⟨b2, o2, none⟩) h.sorts.length h.sc) (by kernel_rfl) (by kernel_rfl) (by kernel_rfl) (fun _ => rfl) (fun W hS _ => ld22 rfl (by kernel_rfl) ((HC.out W hS).1.2)) ?_
                  refine Each.val 20 (.pointer (some ⟨w.heap.size + 1 + 1 + 1, 0, none⟩)) (by kernel_rfl) (by kernel_rfl) (by kernel_rfl) (fun _ => rfl) (fun W hS _ => fa46_0 rfl (by kernel_rfl)) ?_
                  refine Each.val 21 (.int .i64 (j2 : Nat)) (by kernel_rfl) (by kernel_rfl) (by kernel_rfl) (fun _ => rfl) (fun W hS _ => ld3 rfl (by kernel_rfl) ((HC.out W hS).2.2.2.1)) ?_
                  refine Each.val 22 (.pointer (some ⟨b2, o2 + j2, none⟩)) (by kernel_rfl) (by kernel_rfl) (by kernel_rfl) (fun _ => rfl) (fun W hS _ => ix22 (c := h.sc) rfl (by kernel_rfl) (by kernel_rfl) ((hjn2)) rfl) ?_
                  refine Each.val 23 (.string (S2 j2)) (by kernel_rfl) (by kernel_rfl) (by kernel_rfl) (fun _ => rfl) (fun W hS _ => ld9 rfl (by kernel_rfl) ((HC.out W hS).2.1.2)) ?_
                  refine Each.val 24 (.bool false) (by kernel_rfl) (by kernel_rfl) (by kernel_rfl) (fun _ => rfl) (fun W hS _ => ex_neq9 rfl (by kernel_rfl) (by kernel_rfl) (t0)) ?_
                  refine Each.val 25 (.bool false) (by kernel_rfl) (by kernel_rfl) (by kernel_rfl) (fun _ => rfl) (fun _ _ _ => by kernel_rfl) ?_
                  refine Each.val 26 (.pointer (some ⟨w.heap.size + 1 + 1, 2, none⟩)) (by kernel_rfl) (by kernel_rfl) (by kernel_rfl) (fun _ => rfl) (fun W hS _ => fa46_2 rfl (by kernel_rfl)) ?_
                  refine Each.val 27 (.string x.cons) (by kernel_rfl) (by kernel_rfl) (by kernel_rfl) (fun _ => rfl) (fun W hS _ => ld9 rfl (by kernel_rfl) ((HC.out W hS).2.2.1.2.2.1)) ?_
                  refine Each.val 28 (.pointer (some ⟨w.heap.size + 1 + 1 + 1, 2, none⟩)) (by kernel_rfl) (by kernel_rfl) (by kernel_rfl) (fun _ => rfl) (fun W hS _ => fa46_2 rfl (by kernel_rfl)) ?_
                  refine Each.val 29 (.string q.cons) (by kernel_rfl) (by kernel_rfl) (by kernel_rfl) (fun _ => rfl) (fun W hS _ => ld9 rfl (by kernel_rfl) ((HC.out W hS).2.2.2.2.2.1)) ?_
                  refine Each.val 30 (.bool false) (by kernel_rfl) (by kernel_rfl) (by kernel_rfl) (fun _ => rfl) (fun W hS _ => ex_neq9 rfl (by kernel_rfl) (by kernel_rfl) (t1)) ?_
                  refine Each.val 31 (.bool false) (by kernel_rfl) (by kernel_rfl) (by kernel_rfl) (fun _ => rfl) (fun _ _ _ => by kernel_rfl) ?_
                  refine Each.val 32 (.bool false) (by kernel_rfl) (by kernel_rfl) (by kernel_rfl) (fun _ => rfl) (fun _ _ _ => by kernel_rfl) ?_
                  refine Each.val 33 (.pointer (some ⟨w.heap.size + 1 + 1, 3, none⟩)) (by kernel_rfl) (by kernel_rfl) (by kernel_rfl) (fun _ => rfl) (fun W hS _ => fa46_3 rfl (by kernel_rfl)) ?_
                  refine Each.val 34 (.int .i64 x.role) (by kernel_rfl) (by kernel_rfl) (by kernel_rfl) (fun _ => rfl) (fun W hS _ => ld44 rfl (by kernel_rfl) ((HC.out W hS).2.2.1.2.2.2.1)) ?_
                  refine Each.val 35 (.pointer (some ⟨w.heap.size + 1 + 1 + 1, 3, none⟩)) (by kernel_rfl) (by kernel_rfl) (by kernel_rfl) (fun _ => rfl) (fun W hS _ => fa46_3 rfl (by kernel_rfl)) ?_
                  refine Each.val 36 (.int .i64 q.role) (by kernel_rfl) (by kernel_rfl) (by kernel_rfl) (fun _ => rfl) (fun W hS _ => ld44 rfl (by kernel_rfl) ((HC.out W hS).2.2.2.2.2.2.1)) ?_
                  refine Each.val 37 (.bool false) (by kernel_rfl) (by kernel_rfl) (by kernel_rfl) (fun _ => rfl) (fun W hS _ => ex_neq44 rfl (by kernel_rfl) (by kernel_rfl) (t2)) ?_
                  refine Each.val 38 (.bool false) (by kernel_rfl) (by kernel_rfl) (by kernel_rfl) (fun _ => rfl) (fun _ _ _ => by kernel_rfl) ?_
                  refine Each.val 39 (.bool false) (by kernel_rfl) (by kernel_rfl) (by kernel_rfl) (fun _ => rfl) (fun _ _ _ => by kernel_rfl) ?_
                  refine Each.val 40 (.pointer (some ⟨w.heap.size + 1 + 1, 1, none⟩)) (by kernel_rfl) (by kernel_rfl) (by kernel_rfl) (fun _ => rfl) (fun W hS _ => fa46_1 rfl (by kernel_rfl)) ?_
                  refine Each.val 41 (.slice ra1 x.right.length x.rc) (by kernel_rfl) (by kernel_rfl) (by kernel_rfl) (fun _ => rfl) (fun W hS _ => ld43 rfl (by kernel_rfl) ((HC.out W hS).2.2.1.2.1)) ?_
                  refine Each.val 42 (.int .i64 (x.right.length : Nat)) (by kernel_rfl) (by kernel_rfl) (by kernel_rfl) (fun _ => rfl) (fun W hS _ => len43 (a := ra1) (c := x.rc) rfl (by kernel_rfl)) ?_
                  refine Each.val 43 (.pointer (some ⟨w.heap.size + 1 + 1 + 1, 1, none⟩)) (by kernel_rfl) (by kernel_rfl) (by kernel_rfl) (fun _ => rfl) (fun W hS _ => fa46_1 rfl (by kernel_rfl)) ?_
                  refine Each.val 44 (.slice ra2 q.right.length q.rc) (by kernel_rfl) (by kernel_rfl) (by kernel_rfl) (fun _ => rfl) (fun W hS _ => ld43 rfl (by kernel_rfl) ((HC.out W hS).2.2.2.2.1)) ?_
                  refine Each.val 45 (.int .i64 (q.right.length : Nat)) (by kernel_rfl) (by kernel_rfl) (by kernel_rfl) (fun _ => rfl) (fun W hS _ => len43 (a := ra2) (c := q.rc) rfl (by kernel_rfl)) ?_
                  refine Each.val 46 (.bool false) (by kernel_rfl) (by kernel_rfl) (by kernel_rfl) (fun _ => rfl) (fun W hS _ => ex_neq3 rfl (by kernel_rfl) (by kernel_rfl) (t3)) ?_
                  refine Each.val 47 (.bool false) (by kernel_rfl) (by kernel_rfl) (by kernel_rfl) (fun _ => rfl) (fun _ _ _ => by kernel_rfl) ?_
                  refine Each.val 48 (.bool false) (by kernel_rfl) (by kernel_rfl) (by kernel_rfl) (fun _ => rfl) (fun _ _ _ => by kernel_rfl) ?_
                  refine Each.val 49 (.pointer (some ⟨w.heap.size + 1 + 1, 6, none⟩)) (by kernel_rfl) (by kernel_rfl) (by kernel_rfl) (fun _ => rfl) (fun W hS _ => fa46_6 rfl (by kernel_rfl)) ?_
                  refine Each.val 50 (.int .i64 x.frm) (by kernel_rfl) (by kernel_rfl) (by kernel_rfl) (fun _ => rfl) (fun W hS _ => ld3 rfl (by kernel_rfl) ((HC.out W hS).2.2.1.2.2.2.2.2.2)) ?_
                  refine Each.val 51 (.pointer (some ⟨w.heap.size + 1 + 1 + 1, 6, none⟩)) (by kernel_rfl) (by kernel_rfl) (by kernel_rfl) (fun _ => rfl) (fun W hS _ => fa46_6 rfl (by kernel_rfl)) ?_
                  refine Each.val 52 (.int .i64 q.frm) (by kernel_rfl) (by kernel_rfl) (by kernel_rfl) (fun _ => rfl) (fun W hS _ => ld3 rfl (by kernel_rfl) ((HC.out W hS).2.2.2.2.2.2.2.2.2)) ?_
                  refine Each.val 53 (.bool false) (by kernel_rfl) (by kernel_rfl) (by kernel_rfl) (fun _ => rfl) (fun W hS _ => ex_neq3 rfl (by kernel_rfl) (by kernel_rfl) (t4)) ?_
                  refine Each.val 54 (.bool false) (by kernel_rfl) (by kernel_rfl) (by kernel_rfl) (fun _ => rfl) (fun _ _ _ => by kernel_rfl) ?_
                  refine Each.val 55 (.bool false) (by kernel_rfl) (by kernel_rfl) (by kernel_rfl) (fun _ => rfl) (fun _ _ _ => by kernel_rfl) ?_
                  refine Each.val 56 (.pointer (some ⟨w.heap.size + 1 + 1, 4, none⟩)) (by kernel_rfl) (by kernel_rfl) (by kernel_rfl) (fun _ => rfl) (fun W hS _ => fa46_4 rfl (by kernel_rfl)) ?_
                  refine Each.val 57 (.bool x.prefer) (by kernel_rfl) (by kernel_rfl) (by kernel_rfl) (fun _ => rfl) (fun W hS _ => ld4 rfl (by kernel_rfl) ((HC.out W hS).2.2.1.2.2.2.2.1)) ?_
                  refine Each.val 58 (.pointer (some ⟨w.heap.size + 1 + 1 + 1, 4, none⟩)) (by kernel_rfl) (by kernel_rfl) (by kernel_rfl) (fun _ => rfl) (fun W hS _ => fa46_4 rfl (by kernel_rfl)) ?_
                  refine Each.val 59 (.bool q.prefer) (by kernel_rfl) (by kernel_rfl) (by kernel_rfl) (fun _ => rfl) (fun W hS _ => ld4 rfl (by kernel_rfl) ((HC.out W hS).2.2.2.2.2.2.2.1)) ?_
                  refine Each.val 60 (.bool false) (by kernel_rfl) (by kernel_rfl) (by kernel_rfl) (fun _ => rfl) (fun W hS _ => ex_neq4 rfl (by kernel_rfl) (by kernel_rfl) (t5)) ?_
                  refine Each.val 61 (.bool false) (by kernel_rfl) (by kernel_rfl) (by kernel_rfl) (fun _ => rfl) (fun _ _ _ => by kernel_rfl) ?_
                  refine Each.val 62 (.bool false) (by kernel_rfl) (by kernel_rfl) (by kernel_rfl) (fun _ => rfl) (fun _ _ _ => by kernel_rfl) ?_
                  refine Each.val 63 (.pointer (some ⟨w.heap.size + 1 + 1, 5, none⟩)) (by kernel_rfl) (by kernel_rfl) (by kernel_rfl) (fun _ => rfl) (fun W hS _ => fa46_5 rfl (by kernel_rfl)) ?_
                  refine Each.val 64 (.bool x.avoid) (by kernel_rfl) (by kernel_rfl) (by kernel_rfl) (fun _ => rfl) (fun W hS _ => ld4 rfl (by kernel_rfl) ((HC.out W hS).2.2.1.2.2.2.2.2.1)) ?_
                  refine Each.val 65 (.pointer (some ⟨w.heap.size + 1 + 1 + 1, 5, none⟩)) (by kernel_rfl) (by kernel_rfl) (by kernel_rfl) (fun _ => rfl) (fun W hS _ => fa46_5 rfl (by kernel_rfl)) ?_
                  refine Each.val 66 (.bool q.avoid) (by kernel_rfl) (by kernel_rfl) (by kernel_rfl) (fun _ => rfl) (fun W hS _ => ld4 rfl (by kernel_rfl) ((HC.out W hS).2.2.2.2.2.2.2.2.1)) ?_
                  refine Each.val 67 (.bool false) (by kernel_rfl) (by kernel_rfl) (by kernel_rfl) (fun _ => rfl) (fun W hS _ => ex_neq4 rfl (by kernel_rfl) (by kernel_rfl) (t6)) ?_
                  refine Each.val 68 (.bool false) (by kernel_rfl) (by kernel_rfl) (by kernel_rfl) (fun _ => rfl) (fun _ _ _ => by kernel_rfl) ?_
                  exact trivial
                · intro w5 hS5
                  obtain rfl : w5 = W4.drew := hS5
                  have HE1 : Hid (r = eqL (symPB g h) x.right q.right) := Lib.hid (by rw [HE0.out, HRs.out, t0, t1, t2, t3, t4, t5, t6]; rfl)
                  have HML : Hid (x.right.length = q.right.length) := Lib.hid (by have := eq_of_beq t3; omega)
                  have K1 := Lib.hid K0.out.drew
                  clear t0 t1 t2 t3 t4 t5 t6 HC HRs HE0 K0
                  go_wp2_with fail
                  go_loopw [9] (fun i wr => ∃ m : Nat, i = .int .i64 m ∧ m ≤ x.right.length ∧ Hid (∀ (i : Nat) (a c : SymM), i < m → x.right[i]? = some a → q.right[i]? = some c → symPB g h a c = true) ∧ Hid (Four4 w wr #[.slice (some ⟨b1, o1, none⟩) g.sorts.length g.sc, .slice g.pa g.prods.length g.pc, .int .i64 g.start, .slice g.fa g.forbid.length g.fc, .slice g.wa g.follow.length g.wc] #[.slice (some ⟨b2, o2, none⟩) h.sorts.length h.sc, .slice h.pa h.prods.length h.pc, .int .i64 h.start, .slice h.fa h.forbid.length h.fc, .slice h.wa h.follow.length h.wc] #[.int .i64 (j1 : Nat), .slice ra1 x.right.length x.rc, .string x.cons, .int .i64 x.role, .bool x.prefer, .bool x.avoid, .int .i64 x.frm] #[.int .i64 (j2 : Nat), .slice ra2 q.right.length q.rc, .string q.cons, .int .i64 q.role, .bool q.prefer, .bool q.avoid, .int .i64 q.frm])) (fun i _ => x.right.length - (intOf i).toNat)
                  case atStart => exact ⟨0, rfl, Nat.zero_le _, Lib.hid (fun i a c hi => by omega), K1⟩
                  case round =>
                    clear K1
                    obtain ⟨m, rfl, hm, hS, K⟩ := hrel
                    obtain ⟨x0, x1, x2, x3, x4, x5, x6⟩ := cells7 K.out.b2
                    obtain ⟨q0, q1, q2, q3, q4, q5, q6⟩ := cells7 K.out.b3
                    have lx := K.out.b2.lt
                    have lq := K.out.b3.lt
                    by_cases hlm : m < x.right.length
                    · obtain ⟨a, ha⟩ : ∃ a, x.right[m]? = some a := ⟨_, List.getElem?_eq_getElem hlm⟩
                      have hlm2 : m < q.right.length := by rw [← HML.out]; exact hlm
                      obtain ⟨c, hc⟩ : ∃ c, q.right[m]? = some c := ⟨_, List.getElem?_eq_getElem hlm2⟩
                      obtain ⟨br1, or1, er1, hbr1, hca, _⟩ := HX.out m a ha
                      obtain ⟨br2, or2, er2, hbr2, hcc, _⟩ := HQ.out m c hc
                      subst er1
                      subst er2
                      obtain ⟨y0, y1, y2, y3, y4, y5⟩ := Sym_at (hca.below K.out.bl hbr1)
                      obtain ⟨z0, z1, z2, z3, z4, z5⟩ := Sym_at (hcc.below K.out.bl hbr2)
                      have n1 : (m : Int) < (x.right.length : Int) := by omega
                      have n2 : (m : Int) < (q.right.length : Int) := by omega
                      have lb1 : br1 < wr.heap.size := Nat.lt_of_lt_of_le hbr1 K.out.bl.size
                      have lb2 : br2 < wr.heap.size := Nat.lt_of_lt_of_le hbr2 K.out.bl.size
                      have HA := Lib.hid (HXs.out a (List.mem_of_getElem? ha))
                      have HCc := Lib.hid (HQs.out c (List.mem_of_getElem? hc))
                      have HNo : Hid (symPB g h a c = false → r = false) := Lib.hid (fun hn => by rw [HE1.out]; exact eqL_no m a c ha hc hn)
                      have HYes : Hid (symPB g h a c = true → ∀ (i : Nat) (a c : SymM), i < m + 1 → x.right[i]? = some a → q.right[i]? = some c → symPB g h a c = true) := Lib.hid (fun hy i a' c' hi h1 h2 => by
                        by_cases e : i = m
                        · subst e; rw [ha] at h1; rw [hc] at h2; cases h1; cases h2; exact hy
                        · exact hS.out i a' c' (by omega) h1 h2)
                      have T1 := Lib.hid (two_syms a c (Below.refl wr.heap.size wr) (Nat.le_refl _))
                      have T2 := Lib.hid (two_syms c a (Below.refl wr.heap.size wr) (Nat.le_refl _))
                      rw [HSy.out a c] at HNo HYes
                      clear ha hc hca hcc hS
                      obtain ⟨ka, sa, na⟩ := a
                      obtain ⟨kc, sc, nc⟩ := c
                      unfold symC at T1 T2
                      dsimp only at *
                      have e1 : ¬ w.heap.size + 1 + 1 = wr.heap.size := by omega
                      have e2 : ¬ w.heap.size + 1 = wr.heap.size := by omega
                      have e0 : w.heap.size + 1 < wr.heap.size := by omega
                      have e3 : ¬ w.heap.size + 1 + 1 + 1 = wr.heap.size := by omega
                      have e4 : ¬ w.heap.size + 1 + 1 + 1 = wr.heap.size + 1 := by omega
                      have e5 : ¬ br1 = wr.heap.size := by omega
                      have e6 : ¬ br1 = wr.heap.size + 1 := by omega
                      have e7 : ¬ br2 = wr.heap.size := by omega
                      have e8 : ¬ br2 = wr.heap.size + 1 := by omega
                      go_upto_region 6 with fail
                      go_cut [10, 11] (fun s10 s11 wx => ∃ Ba Bc, s10 = .pointer (some ⟨Ba, 0, none⟩) ∧ s11 = .pointer (some ⟨Bc, 0, none⟩) ∧ Hid (Blk wx Ba 68 #[.int .i64 ka, .int .u64 (wdI sa 0), .int .u64 (wdI sa 1), .int .u64 (wdI sa 2), .int .u64 (wdI sa 3), .int .i64 na] ∧ Blk wx Bc 68 #[.int .i64 kc, .int .u64 (wdI sc 0), .int .u64 (wdI sc 1), .int .u64 (wdI sc 2), .int .u64 (wdI sc 3), .int .i64 nc] ∧ Four4 w wx #[.slice (some ⟨b1, o1, none⟩) g.sorts.length g.sc, .slice g.pa g.prods.length g.pc, .int .i64 g.start, .slice g.fa g.forbid.length g.fc, .slice g.wa g.follow.length g.wc] #[.slice (some ⟨b2, o2, none⟩) h.sorts.length h.sc, .slice h.pa h.prods.length h.pc, .int .i64 h.start, .slice h.fa h.forbid.length h.fc, .slice h.wa h.follow.length h.wc] #[.int .i64 (j1 : Nat), .slice (some ⟨br1, or1, none⟩) x.right.length x.rc, .string x.cons, .int .i64 x.role, .bool x.prefer, .bool x.avoid, .int .i64 x.frm] #[.int .i64 (j2 : Nat), .slice (some ⟨br2, or2, none⟩) q.right.length q.rc, .string q.cons, .int .i64 q.role, .bool q.prefer, .bool q.avoid, .int .i64 q.frm]))
                      case first =>
                        go_wp2
                        go_region
                        all_goals (go_wp2; go_meet)
                        · exact ⟨_, _, rfl, rfl, Lib.hid ⟨T1.out.1, T1.out.2.1, K.out.below T1.out.2.2⟩⟩
                        · exact ⟨_, _, rfl, rfl, Lib.hid ⟨T2.out.2.1, T2.out.1, K.out.below T2.out.2.2⟩⟩
                      obtain ⟨Ba, Bc, rfl, rfl, KK⟩ := hcut
                      clear e0 e1 e2 e3 e4 e5 e6 e7 e8 K T1 T2 x0 x1 x2 x3 x4 x5 x6 q0 q1 q2 q3 q4 q5 q6 lx lq y0 y1 y2 y3 y4 y5 z0 z1 z2 z3 z4 z5 lb1 lb2
                      go_upto_region 7 with fail
                      have HC7 : Hid (∀ W, W = wc.drew → (W.cell? ⟨Ba, 0, none⟩ = some (.int .i64 ka) ∧ (W.cell? ⟨Ba, 1, none⟩ = some (.int .u64 (wdI sa 0)) ∧ W.cell? ⟨Ba, 1 + 1, none⟩ = some (.int .u64 (wdI sa 1)) ∧ W.cell? ⟨Ba, 1 + 2, none⟩ = some (.int .u64 (wdI sa 2)) ∧ W.cell? ⟨Ba, 1 + 3, none⟩ = some (.int .u64 (wdI sa 3))) ∧ W.cell? ⟨Ba, 5, none⟩ = some (.int .i64 na))
                        ∧ (W.cell? ⟨Bc, 0, none⟩ = some (.int .i64 kc) ∧ (W.cell? ⟨Bc, 1, none⟩ = some (.int .u64 (wdI sc 0)) ∧ W.cell? ⟨Bc, 1 + 1, none⟩ = some (.int .u64 (wdI sc 1)) ∧ W.cell? ⟨Bc, 1 + 2, none⟩ = some (.int .u64 (wdI sc 2)) ∧ W.cell? ⟨Bc, 1 + 3, none⟩ = some (.int .u64 (wdI sc 3))) ∧ W.cell? ⟨Bc, 5, none⟩ = some (.int .i64 nc))
                        ∧ W.cell? ⟨w.heap.size, 0, none⟩ = some (.slice (some ⟨b1, o1, none⟩) g.sorts.length g.sc) ∧ W.cell? ⟨w.heap.size + 1, 0, none⟩ = some (.slice (some ⟨b2, o2, none⟩) h.sorts.length h.sc)) := Lib.hid (fun W hW => by
                        subst hW
                        have ba := KK.out.1.drew
                        have bc := KK.out.2.1.drew
                        have bf := KK.out.2.2.drew
                        exact ⟨⟨ba.cell 0, ⟨ba.cell 1, ba.cell 2, ba.cell 3, ba.cell 4⟩, ba.cell 5⟩, ⟨bc.cell 0, ⟨bc.cell 1, bc.cell 2, bc.cell 3, bc.cell 4⟩, bc.cell 5⟩, bf.b0.cell 0, bf.b1.cell 0⟩)
                      cases d0 : (ka == kc) with
                      | false =>
                        have HE : Hid (r = false) := Lib.hid (HNo.out (by (try dsimp only); rw [d0]; rfl))
                        refine wp_region_vals0 (N := fun w w' => w' = w) (S := fun W => W = wc.drew)
                          [.pointer (some ⟨Ba, 0, none⟩), .int .i64 ka, .pointer (some ⟨Bc, 0, none⟩), .int .i64 kc, .bool true, .bool true, undef, undef, undef, undef, undef, .bool true, .bool true, undef, undef, undef, undef, undef, undef, undef, undef, undef, undef, undef, undef, undef, undef, undef, undef, undef, undef, .bool true]
                          #[.agg #[.slice (some ⟨b1, o1, none⟩) g.sorts.length g.sc, .slice g.pa g.prods.length g.pc, .int .i64 g.start, .slice g.fa g.forbid.length g.fc, .slice g.wa g.follow.length g.wc], .agg #[.slice (some ⟨b2, o2, none⟩) h.sorts.length h.sc, .slice h.pa h.prods.length h.pc, .int .i64 h.start, .slice h.fa h.forbid.length h.fc, .slice h.wa h.follow.length h.wc], .agg #[.int .i64 (j1 : Nat), .slice (some ⟨br1, or1, none⟩) x.right.length x.rc, .string x.cons, .int .i64 x.role, .bool x.prefer, .bool x.avoid, .int .i64 x.frm], .agg #[.int .i64 (j2 : Nat), .slice (some ⟨br2, or2, none⟩) q.right.length q.rc, .string q.cons, .int .i64 q.role, .bool q.prefer, .bool q.avoid, .int .i64 q.frm], .pointer (some ⟨w.heap.size, 0, none⟩), .pointer (some ⟨w.heap.size + 1, 0, none⟩), .pointer (some ⟨w.heap.size + 1 + 1, 0, none⟩), .pointer (some ⟨w.heap.size + 1 + 1 + 1, 0, none⟩), u8, .int .i64 (m : Nat), .pointer (some ⟨Ba, 0, none⟩), .pointer (some ⟨Bc, 0, none⟩), .pointer (some ⟨w.heap.size, 0, none⟩), .slice (some ⟨b1, o1, none⟩) g.sorts.length g.sc, .pointer (some ⟨w.heap.size + 1 + 1, 0, none⟩), .int .i64 (j1 : Nat), .pointer (some ⟨b1, o1 + j1, none⟩), .string (S1 j1), .pointer (some ⟨w.heap.size + 1, 0, none⟩), .slice (some ⟨b2, o2, none⟩) h.sorts.length h.sc, .pointer (some ⟨w.heap.size + 1 + 1 + 1, 0, none⟩), .int .i64 (j2 : Nat), .pointer (some ⟨b2, o2 + j2, none⟩), .string (S2 j2), .bool false, .bool false, .pointer (some ⟨w.heap.size + 1 + 1, 2, none⟩), .string x.cons, .pointer (some ⟨w.heap.size + 1 + 1 + 1, 2, none⟩), .string q.cons, .bool false, .bool false, .bool false, .pointer (some ⟨w.heap.size + 1 + 1, 3, none⟩), .int .i64 x.role, .pointer (some ⟨w.heap.size + 1 + 1 + 1, 3, none⟩), .int .i64 q.role, .bool false, .bool false, .bool false, .pointer (some ⟨w.heap.size + 1 + 1, 1, none⟩), .slice (some ⟨br1, or1, none⟩) x.right.length x.rc, .int .i64 (x.right.length : Nat), .pointer (some ⟨w.heap.size + 1 + 1 + 1, 1, none⟩), .slice (some ⟨br2, or2, none⟩) q.right.length q.rc, .int .i64 (q.right.length : Nat), .bool false, .bool false, .bool false, .pointer (some ⟨w.heap.size + 1 + 1, 6, none⟩), .int .i64 x.frm, .pointer (some ⟨w.heap.size + 1 + 1 + 1, 6, none⟩), .int .i64 q.frm, .bool false, .bool false, .bool false, .pointer (some ⟨w.heap.size + 1 + 1, 4, none⟩), .bool x.prefer, .pointer (some ⟨w.heap.size + 1 + 1 + 1, 4, none⟩), .bool q.prefer, .bool false, .bool false, .bool false, .pointer (some ⟨w.heap.size + 1 + 1, 5, none⟩), .bool x.avoid, .pointer (some ⟨w.heap.size + 1 + 1 + 1, 5, none⟩), .bool q.avoid, .bool false, .bool false, u69, u70, u71, u72, u73, u74, u75, u76, u77, u78, u79, u80, u81, u82, u83, u84, u85, .pointer (some ⟨Ba, 0, none⟩), .int .i64 ka, .pointer (some ⟨Bc, 0, none⟩), .int .i64 kc, .bool true, .bool true, undef, undef, undef, undef, undef, .bool true, .bool true, undef, undef, undef, undef, undef, undef, undef, undef, undef, undef, undef, undef, undef, undef, undef, undef, undef, undef, .bool true]
                          rfl (by kernel_rfl) (by kernel_rfl) (by kernel_rfl) (fun _ => rfl) rfl (fun _ _ h h2 => h2.trans h) ?_ ?_
                        · refine Each.val 86 (.pointer (some ⟨Ba, 0, none⟩)) (by kernel_rfl) (by kernel_rfl) (by kernel_rfl) (fun _ => rfl) (fun W hS _ => fa68_0 rfl (by kernel_rfl)) ?_
                          refine Each.val 87 (.int .i64 ka) (by kernel_rfl) (by kernel_rfl) (by kernel_rfl) (fun _ => rfl) (fun W hS _ => ld63 rfl (by kernel_rfl) ((HC7.out W hS).1.1)) ?_
                          refine Each.val 88 (.pointer (some ⟨Bc, 0, none⟩)) (by kernel_rfl) (by kernel_rfl) (by kernel_rfl) (fun _ => rfl) (fun W hS _ => fa68_0 rfl (by kernel_rfl)) ?_
                          refine Each.val 89 (.int .i64 kc) (by kernel_rfl) (by kernel_rfl) (by kernel_rfl) (fun _ => rfl) (fun W hS _ => ld63 rfl (by kernel_rfl) ((HC7.out W hS).2.1.1)) ?_
                          refine Each.val 90 (.bool true) (by kernel_rfl) (by kernel_rfl) (by kernel_rfl) (fun _ => rfl) (fun W hS _ => ex_neq63 rfl (by kernel_rfl) (by kernel_rfl) (d0)) ?_
                          refine Each.val 91 (.bool true) (by kernel_rfl) (by kernel_rfl) (by kernel_rfl) (fun _ => rfl) (fun _ _ _ => by kernel_rfl) ?_
                          refine Each.off 92 (by kernel_rfl) (by kernel_rfl) (by kernel_rfl) ?_
                          refine Each.off 93 (by kernel_rfl) (by kernel_rfl) (by kernel_rfl) ?_
                          refine Each.off 94 (by kernel_rfl) (by kernel_rfl) (by kernel_rfl) ?_
                          refine Each.off 95 (by kernel_rfl) (by kernel_rfl) (by kernel_rfl) ?_
                          refine Each.off 96 (by kernel_rfl) (by kernel_rfl) (by kernel_rfl) ?_
                          refine Each.val 97 (.bool true) (by kernel_rfl) (by kernel_rfl) (by kernel_rfl) (fun _ => rfl) (fun _ _ _ => by kernel_rfl) ?_
                          refine Each.val 98 (.bool true) (by kernel_rfl) (by kernel_rfl) (by kernel_rfl) (fun _ => rfl) (fun _ _ _ => by kernel_rfl) ?_
                          refine Each.off 99 (by kernel_rfl) (by kernel_rfl) (by kernel_rfl) ?_
                          refine Each.off 100 (by kernel_rfl) (by kernel_rfl) (by kernel_rfl) ?_
                          refine Each.off 101 (by kernel_rfl) (by kernel_rfl) (by kernel_rfl) ?_
                          refine Each.off 102 (by kernel_rfl) (by kernel_rfl) (by kernel_rfl) ?_
                          refine Each.off 103 (by kernel_rfl) (by kernel_rfl) (by kernel_rfl) ?_
                          refine Each.off 104 (by kernel_rfl) (by kernel_rfl) (by kernel_rfl) ?_
                          refine Each.off 105 (by kernel_rfl) (by kernel_rfl) (by kernel_rfl) ?_
                          refine Each.off 106 (by kernel_rfl) (by kernel_rfl) (by kernel_rfl) ?_
                          refine Each.off 107 (by kernel_rfl) (by kernel_rfl) (by kernel_rfl) ?_
                          refine Each.off 108 (by kernel_rfl) (by kernel_rfl) (by kernel_rfl) ?_
                          refine Each.off 109 (by kernel_rfl) (by kernel_rfl) (by kernel_rfl) ?_
                          refine Each.off 110 (by kernel_rfl) (by kernel_rfl) (by kernel_rfl) ?_
                          refine Each.off 111 (by kernel_rfl) (by kernel_rfl) (by kernel_rfl) ?_
                          refine Each.off 112 (by kernel_rfl) (by kernel_rfl) (by kernel_rfl) ?_
                          refine Each.off 113 (by kernel_rfl) (by kernel_rfl) (by kernel_rfl) ?_
                          refine Each.off 114 (by kernel_rfl) (by kernel_rfl) (by kernel_rfl) ?_
                          refine Each.off 115 (by kernel_rfl) (by kernel_rfl) (by kernel_rfl) ?_
                          refine Each.off 116 (by kernel_rfl) (by kernel_rfl) (by kernel_rfl) ?_
                          refine Each.val 117 (.bool true) (by kernel_rfl) (by kernel_rfl) (by kernel_rfl) (fun _ => rfl) (fun _ _ _ => by kernel_rfl) ?_
                          exact trivial
                        · intro w5 hS5
                          obtain rfl : w5 = wc.drew := hS5
                          go_wp2
                          go_ret
                          exact ⟨by rw [HE.out]; try rfl, KK.out.2.2.drew.bl⟩
                      | true =>
                        cases d1 : (sa == sc) with
                        | false =>
                          have HE : Hid (r = false) := Lib.hid (HNo.out (by (try dsimp only); rw [d0, d1]; rfl))
                          refine wp_region_vals0 (N := fun w w' => w' = w) (S := fun W => W = wc.drew)
                            [.pointer (some ⟨Ba, 0, none⟩), .int .i64 ka, .pointer (some ⟨Bc, 0, none⟩), .int .i64 kc, .bool false, .bool false, .pointer (some ⟨Ba, 1, none⟩), .agg #[.int .u64 (wdI sa 0), .int .u64 (wdI sa 1), .int .u64 (wdI sa 2), .int .u64 (wdI sa 3)], .pointer (some ⟨Bc, 1, none⟩), .agg #[.int .u64 (wdI sc 0), .int .u64 (wdI sc 1), .int .u64 (wdI sc 2), .int .u64 (wdI sc 3)], .bool true, .bool true, .bool true, undef, undef, undef, undef, undef, undef, undef, undef, undef, undef, undef, undef, undef, undef, undef, undef, undef, undef, .bool true]
                            #[.agg #[.slice (some ⟨b1, o1, none⟩) g.sorts.length g.sc, .slice g.pa g.prods.length g.pc, .int .i64 g.start, .slice g.fa g.forbid.length g.fc, .slice g.wa g.follow.length g.wc], .agg #[.slice (some ⟨b2, o2, none⟩) h.sorts.length h.sc, .slice h.pa h.prods.length h.pc, .int .i64 h.start, .slice h.fa h.forbid.length h.fc, .slice h.wa h.follow.length h.wc], .agg #[.int .i64 (j1 : Nat), .slice (some ⟨br1, or1, none⟩) x.right.length x.rc, .string x.cons, .int .i64 x.role, .bool x.prefer, .bool x.avoid, .int .i64 x.frm], .agg #[.int .i64 (j2 : Nat), .slice (some ⟨br2, or2, none⟩) q.right.length q.rc, .string q.cons, .int .i64 q.role, .bool q.prefer, .bool q.avoid, .int .i64 q.frm], .pointer (some ⟨w.heap.size, 0, none⟩), .pointer (some ⟨w.heap.size + 1, 0, none⟩), .pointer (some ⟨w.heap.size + 1 + 1, 0, none⟩), .pointer (some ⟨w.heap.size + 1 + 1 + 1, 0, none⟩), u8, .int .i64 (m : Nat), .pointer (some ⟨Ba, 0, none⟩), .pointer (some ⟨Bc, 0, none⟩), .pointer (some ⟨w.heap.size, 0, none⟩), .slice (some ⟨b1, o1, none⟩) g.sorts.length g.sc, .pointer (some ⟨w.heap.size + 1 + 1, 0, none⟩), .int .i64 (j1 : Nat), .pointer (some ⟨b1, o1 + j1, none⟩), .string (S1 j1), .pointer (some ⟨w.heap.size + 1, 0, none⟩), .slice (some ⟨b2, o2, none⟩) h.sorts.length h.sc, .pointer (some ⟨w.heap.size + 1 + 1 + 1, 0, none⟩), .int .i64 (j2 : Nat), .pointer (some ⟨b2, o2 + j2, none⟩), .string (S2 j2), .bool false, .bool false, .pointer (some ⟨w.heap.size + 1 + 1, 2, none⟩), .string x.cons, .pointer (some ⟨w.heap.size + 1 + 1 + 1, 2, none⟩), .string q.cons, .bool false, .bool false, .bool false, .pointer (some ⟨w.heap.size + 1 + 1, 3, none⟩), .int .i64 x.role, .pointer (some ⟨w.heap.size + 1 + 1 + 1, 3, none⟩), .int .i64 q.role, .bool false, .bool false, .bool false, .pointer (some ⟨w.heap.size + 1 + 1, 1, none⟩), .slice (some ⟨br1, or1, none⟩) x.right.length x.rc, .int .i64 (x.right.length : Nat), .pointer (some ⟨w.heap.size + 1 + 1 + 1, 1, none⟩), .slice (some ⟨br2, or2, none⟩) q.right.length q.rc, .int .i64 (q.right.length : Nat), .bool false, .bool false, .bool false, .pointer (some ⟨w.heap.size + 1 + 1, 6, none⟩), .int .i64 x.frm, .pointer (some ⟨w.heap.size + 1 + 1 + 1, 6, none⟩), .int .i64 q.frm, .bool false, .bool false, .bool false, .pointer (some ⟨w.heap.size + 1 + 1, 4, none⟩), .bool x.prefer, .pointer (some ⟨w.heap.size + 1 + 1 + 1, 4, none⟩), .bool q.prefer, .bool false, .bool false, .bool false, .pointer (some ⟨w.heap.size + 1 + 1, 5, none⟩), .bool x.avoid, .pointer (some ⟨w.heap.size + 1 + 1 + 1, 5, none⟩), .bool q.avoid, .bool false, .bool false, u69, u70, u71, u72, u73, u74, u75, u76, u77, u78, u79, u80, u81, u82, u83, u84, u85, .pointer (some ⟨Ba, 0, none⟩), .int .i64 ka, .pointer (some ⟨Bc, 0, none⟩), .int .i64 kc, .bool false, .bool false, .pointer (some ⟨Ba, 1, none⟩), .agg #[.int .u64 (wdI sa 0), .int .u64 (wdI sa 1), .int .u64 (wdI sa 2), .int .u64 (wdI sa 3)], .pointer (some ⟨Bc, 1, none⟩), .agg #[.int .u64 (wdI sc 0), .int .u64 (wdI sc 1), .int .u64 (wdI sc 2), .int .u64 (wdI sc 3)], .bool true, .bool true, .bool true, undef, undef, undef, undef, undef, undef, undef, undef, undef, undef, undef, undef, undef, undef, undef, undef, undef, undef, .bool true]
                            rfl (by kernel_rfl) (by kernel_rfl) (by kernel_rfl) (fun _ => rfl) rfl (fun _ _ h h2 => h2.trans h) ?_ ?_
                          · refine Each.val 86 (.pointer (some ⟨Ba, 0, none⟩)) (by kernel_rfl) (by kernel_rfl) (by kernel_rfl) (fun _ => rfl) (fun W hS _ => fa68_0 rfl (by kernel_rfl)) ?_
                            refine Each.val 87 (.int .i64 ka) (by kernel_rfl) (by kernel_rfl) (by kernel_rfl) (fun _ => rfl) (fun W hS _ => ld63 rfl (by kernel_rfl) ((HC7.out W hS).1.1)) ?_
                            refine Each.val 88 (.pointer (some ⟨Bc, 0, none⟩)) (by kernel_rfl) (by kernel_rfl) (by kernel_rfl) (fun _ => rfl) (fun W hS _ => fa68_0 rfl (by kernel_rfl)) ?_
                            refine Each.val 89 (.int .i64 kc) (by kernel_rfl) (by kernel_rfl) (by kernel_rfl) (fun _ => rfl) (fun W hS _ => ld63 rfl (by kernel_rfl) ((HC7.out W hS).2.1.1)) ?_
                            refine Each.val 90 (.bool false) (by kernel_rfl) (by kernel_rfl) (by kernel_rfl) (fun _ => rfl) (fun W hS _ => ex_neq63 rfl (by kernel_rfl) (by kernel_rfl) (d0)) ?_
                            refine Each.val 91 (.bool false) (by kernel_rfl) (by kernel_rfl) (by kernel_rfl) (fun _ => rfl) (fun _ _ _ => by kernel_rfl) ?_
                            refine Each.val 92 (.pointer (some ⟨Ba, 1, none⟩)) (by kernel_rfl) (by kernel_rfl) (by kernel_rfl) (fun _ => rfl) (fun W hS _ => fa68_1 rfl (by kernel_rfl)) ?_
                            refine Each.val 93 (.agg #[.int .u64 (wdI sa 0), .int .u64 (wdI sa 1), .int .u64 (wdI sa 2), .int .u64 (wdI sa 3)]) (by kernel_rfl) (by kernel_rfl) (by kernel_rfl) (fun _ => rfl) (fun W hS _ => ld66w rfl (by kernel_rfl) ((HC7.out W hS).1.2.1)) ?_
                            refine Each.val 94 (.pointer (some ⟨Bc, 1, none⟩)) (by kernel_rfl) (by kernel_rfl) (by kernel_rfl) (fun _ => rfl) (fun W hS _ => fa68_1 rfl (by kernel_rfl)) ?_
                            refine Each.val 95 (.agg #[.int .u64 (wdI sc 0), .int .u64 (wdI sc 1), .int .u64 (wdI sc 2), .int .u64 (wdI sc 3)]) (by kernel_rfl) (by kernel_rfl) (by kernel_rfl) (fun _ => rfl) (fun W hS _ => ld66w rfl (by kernel_rfl) ((HC7.out W hS).2.1.2.1)) ?_
                            refine Each.val 96 (.bool true) (by kernel_rfl) (by kernel_rfl) (by kernel_rfl) (fun _ => rfl) (fun W hS _ => ex_neq66 rfl (by kernel_rfl) (by kernel_rfl) (d1)) ?_
                            refine Each.val 97 (.bool true) (by kernel_rfl) (by kernel_rfl) (by kernel_rfl) (fun _ => rfl) (fun _ _ _ => by kernel_rfl) ?_
                            refine Each.val 98 (.bool true) (by kernel_rfl) (by kernel_rfl) (by kernel_rfl) (fun _ => rfl) (fun _ _ _ => by kernel_rfl) ?_
                            refine Each.off 99 (by kernel_rfl) (by kernel_rfl) (by kernel_rfl) ?_
                            refine Each.off 100 (by kernel_rfl) (by kernel_rfl) (by kernel_rfl) ?_
                            refine Each.off 101 (by kernel_rfl) (by kernel_rfl) (by kernel_rfl) ?_
                            refine Each.off 102 (by kernel_rfl) (by kernel_rfl) (by kernel_rfl) ?_
                            refine Each.off 103 (by kernel_rfl) (by kernel_rfl) (by kernel_rfl) ?_
                            refine Each.off 104 (by kernel_rfl) (by kernel_rfl) (by kernel_rfl) ?_
                            refine Each.off 105 (by kernel_rfl) (by kernel_rfl) (by kernel_rfl) ?_
                            refine Each.off 106 (by kernel_rfl) (by kernel_rfl) (by kernel_rfl) ?_
                            refine Each.off 107 (by kernel_rfl) (by kernel_rfl) (by kernel_rfl) ?_
                            refine Each.off 108 (by kernel_rfl) (by kernel_rfl) (by kernel_rfl) ?_
                            refine Each.off 109 (by kernel_rfl) (by kernel_rfl) (by kernel_rfl) ?_
                            refine Each.off 110 (by kernel_rfl) (by kernel_rfl) (by kernel_rfl) ?_
                            refine Each.off 111 (by kernel_rfl) (by kernel_rfl) (by kernel_rfl) ?_
                            refine Each.off 112 (by kernel_rfl) (by kernel_rfl) (by kernel_rfl) ?_
                            refine Each.off 113 (by kernel_rfl) (by kernel_rfl) (by kernel_rfl) ?_
                            refine Each.off 114 (by kernel_rfl) (by kernel_rfl) (by kernel_rfl) ?_
                            refine Each.off 115 (by kernel_rfl) (by kernel_rfl) (by kernel_rfl) ?_
                            refine Each.off 116 (by kernel_rfl) (by kernel_rfl) (by kernel_rfl) ?_
                            refine Each.val 117 (.bool true) (by kernel_rfl) (by kernel_rfl) (by kernel_rfl) (fun _ => rfl) (fun _ _ _ => by kernel_rfl) ?_
                            exact trivial
                          · intro w5 hS5
                            obtain rfl : w5 = wc.drew := hS5
                            go_wp2
                            go_ret
                            exact ⟨by rw [HE.out]; try rfl, KK.out.2.2.drew.bl⟩
                        | true =>
                          rcases HA.out.1 with e | e
                          · have HK := Lib.hid e
                            have HY := Lib.hid (HYes.out (by (try dsimp only); rw [d0, d1, e]; rfl))
                            clear e
                            refine wp_region_vals0 (N := fun w w' => w' = w) (S := fun W => W = wc.drew)
                              [.pointer (some ⟨Ba, 0, none⟩), .int .i64 ka, .pointer (some ⟨Bc, 0, none⟩), .int .i64 kc, .bool false, .bool false, .pointer (some ⟨Ba, 1, none⟩), .agg #[.int .u64 (wdI sa 0), .int .u64 (wdI sa 1), .int .u64 (wdI sa 2), .int .u64 (wdI sa 3)], .pointer (some ⟨Bc, 1, none⟩), .agg #[.int .u64 (wdI sc 0), .int .u64 (wdI sc 1), .int .u64 (wdI sc 2), .int .u64 (wdI sc 3)], .bool false, .bool false, .bool false, .pointer (some ⟨Ba, 0, none⟩), .int .i64 ka, .bool false, .bool false, undef, undef, undef, undef, undef, undef, undef, undef, undef, undef, undef, undef, undef, .bool false, .bool false]
                              #[.agg #[.slice (some ⟨b1, o1, none⟩) g.sorts.length g.sc, .slice g.pa g.prods.length g.pc, .int .i64 g.start, .slice g.fa g.forbid.length g.fc, .slice g.wa g.follow.length g.wc], .agg #[.slice (some ⟨b2, o2, none⟩) h.sorts.length h.sc, .slice h.pa h.prods.length h.pc, .int .i64 h.start, .slice h.fa h.forbid.length h.fc, .slice h.wa h.follow.length h.wc], .agg #[.int .i64 (j1 : Nat), .slice (some ⟨br1, or1, none⟩) x.right.length x.rc, .string x.cons, .int .i64 x.role, .bool x.prefer, .bool x.avoid, .int .i64 x.frm], .agg #[.int .i64 (j2 : Nat), .slice (some ⟨br2, or2, none⟩) q.right.length q.rc, .string q.cons, .int .i64 q.role, .bool q.prefer, .bool q.avoid, .int .i64 q.frm], .pointer (some ⟨w.heap.size, 0, none⟩), .pointer (some ⟨w.heap.size + 1, 0, none⟩), .pointer (some ⟨w.heap.size + 1 + 1, 0, none⟩), .pointer (some ⟨w.heap.size + 1 + 1 + 1, 0, none⟩), u8, .int .i64 (m : Nat), .pointer (some ⟨Ba, 0, none⟩), .pointer (some ⟨Bc, 0, none⟩), .pointer (some ⟨w.heap.size, 0, none⟩), .slice (some ⟨b1, o1, none⟩) g.sorts.length g.sc, .pointer (some ⟨w.heap.size + 1 + 1, 0, none⟩), .int .i64 (j1 : Nat), .pointer (some ⟨b1, o1 + j1, none⟩), .string (S1 j1), .pointer (some ⟨w.heap.size + 1, 0, none⟩), .slice (some ⟨b2, o2, none⟩) h.sorts.length h.sc, .pointer (some ⟨w.heap.size + 1 + 1 + 1, 0, none⟩), .int .i64 (j2 : Nat), .pointer (some ⟨b2, o2 + j2, none⟩), .string (S2 j2), .bool false, .bool false, .pointer (some ⟨w.heap.size + 1 + 1, 2, none⟩), .string x.cons, .pointer (some ⟨w.heap.size + 1 + 1 + 1, 2, none⟩), .string q.cons, .bool false, .bool false, .bool false, .pointer (some ⟨w.heap.size + 1 + 1, 3, none⟩), .int .i64 x.role, .pointer (some ⟨w.heap.size + 1 + 1 + 1, 3, none⟩), .int .i64 q.role, .bool false, .bool false, .bool false, .pointer (some ⟨w.heap.size + 1 + 1, 1, none⟩), .slice (some ⟨br1, or1, none⟩) x.right.length x.rc, .int .i64 (x.right.length : Nat), .pointer (some ⟨w.heap.size + 1 + 1 + 1, 1, none⟩), .slice (some ⟨br2, or2, none⟩) q.right.length q.rc, .int .i64 (q.right.length : Nat), .bool false, .bool false, .bool false, .pointer (some ⟨w.heap.size + 1 + 1, 6, none⟩), .int .i64 x.frm, .pointer (some ⟨w.heap.size + 1 + 1 + 1, 6, none⟩), .int .i64 q.frm, .bool false, .bool false, .bool false, .pointer (some ⟨w.heap.size + 1 + 1, 4, none⟩), .bool x.prefer, .pointer (some ⟨w.heap.size + 1 + 1 + 1, 4, none⟩), .bool q.prefer, .bool false, .bool false, .bool false, .pointer (some ⟨w.heap.size + 1 + 1, 5, none⟩), .bool x.avoid, .pointer (some ⟨w.heap.size + 1 + 1 + 1, 5, none⟩), .bool q.avoid, .bool false, .bool false, u69, u70, u71, u72, u73, u74, u75, u76, u77, u78, u79, u80, u81, u82, u83, u84, u85, .pointer (some ⟨Ba, 0, none⟩), .int .i64 ka, .pointer (some ⟨Bc, 0, none⟩), .int .i64 kc, .bool false, .bool false, .pointer (some ⟨Ba, 1, none⟩), .agg #[.int .u64 (wdI sa 0), .int .u64 (wdI sa 1), .int .u64 (wdI sa 2), .int .u64 (wdI sa 3)], .pointer (some ⟨Bc, 1, none⟩), .agg #[.int .u64 (wdI sc 0), .int .u64 (wdI sc 1), .int .u64 (wdI sc 2), .int .u64 (wdI sc 3)], .bool false, .bool false, .bool false, .pointer (some ⟨Ba, 0, none⟩), .int .i64 ka, .bool false, .bool false, undef, undef, undef, undef, undef, undef, undef, undef, undef, undef, undef, undef, undef, .bool false, .bool false]
                              rfl (by kernel_rfl) (by kernel_rfl) (by kernel_rfl) (fun _ => rfl) rfl (fun _ _ h h2 => h2.trans h) ?_ ?_
                            · refine Each.val 86 (.pointer (some ⟨Ba, 0, none⟩)) (by kernel_rfl) (by kernel_rfl) (by kernel_rfl) (fun _ => rfl) (fun W hS _ => fa68_0 rfl (by kernel_rfl)) ?_
                              refine Each.val 87 (.int .i64 ka) (by kernel_rfl) (by kernel_rfl) (by kernel_rfl) (fun _ => rfl) (fun W hS _ => ld63 rfl (by kernel_rfl) ((HC7.out W hS).1.1)) ?_
                              refine Each.val 88 (.pointer (some ⟨Bc, 0, none⟩)) (by kernel_rfl) (by kernel_rfl) (by kernel_rfl) (fun _ => rfl) (fun W hS _ => fa68_0 rfl (by kernel_rfl)) ?_
                              refine Each.val 89 (.int .i64 kc) (by kernel_rfl) (by kernel_rfl) (by kernel_rfl) (fun _ => rfl) (fun W hS _ => ld63 rfl (by kernel_rfl) ((HC7.out W hS).2.1.1)) ?_
                              refine Each.val 90 (.bool false) (by kernel_rfl) (by kernel_rfl) (by kernel_rfl) (fun _ => rfl) (fun W hS _ => ex_neq63 rfl (by kernel_rfl) (by kernel_rfl) (d0)) ?_
                              refine Each.val 91 (.bool false) (by kernel_rfl) (by kernel_rfl) (by kernel_rfl) (fun _ => rfl) (fun _ _ _ => by kernel_rfl) ?_
                              refine Each.val 92 (.pointer (some ⟨Ba, 1, none⟩)) (by kernel_rfl) (by kernel_rfl) (by kernel_rfl) (fun _ => rfl) (fun W hS _ => fa68_1 rfl (by kernel_rfl)) ?_
                              refine Each.val 93 (.agg #[.int .u64 (wdI sa 0), .int .u64 (wdI sa 1), .int .u64 (wdI sa 2), .int .u64 (wdI sa 3)]) (by kernel_rfl) (by kernel_rfl) (by kernel_rfl) (fun _ => rfl) (fun W hS _ => ld66w rfl (by kernel_rfl) ((HC7.out W hS).1.2.1)) ?_
                              refine Each.val 94 (.pointer (some ⟨Bc, 1, none⟩)) (by kernel_rfl) (by kernel_rfl) (by kernel_rfl) (fun _ => rfl) (fun W hS _ => fa68_1 rfl (by kernel_rfl)) ?_
                              refine Each.val 95 (.agg #[.int .u64 (wdI sc 0), .int .u64 (wdI sc 1), .int .u64 (wdI sc 2), .int .u64 (wdI sc 3)]) (by kernel_rfl) (by kernel_rfl) (by kernel_rfl) (fun _ => rfl) (fun W hS _ => ld66w rfl (by kernel_rfl) ((HC7.out W hS).2.1.2.1)) ?_
                              refine Each.val 96 (.bool false) (by kernel_rfl) (by kernel_rfl) (by kernel_rfl) (fun _ => rfl) (fun W hS _ => ex_neq66 rfl (by kernel_rfl) (by kernel_rfl) (d1)) ?_
                              refine Each.val 97 (.bool false) (by kernel_rfl) (by kernel_rfl) (by kernel_rfl) (fun _ => rfl) (fun _ _ _ => by kernel_rfl) ?_
                              refine Each.val 98 (.bool false) (by kernel_rfl) (by kernel_rfl) (by kernel_rfl) (fun _ => rfl) (fun _ _ _ => by kernel_rfl) ?_
                              refine Each.val 99 (.pointer (some ⟨Ba, 0, none⟩)) (by kernel_rfl) (by kernel_rfl) (by kernel_rfl) (fun _ => rfl) (fun W hS _ => fa68_0 rfl (by kernel_rfl)) ?_
                              refine Each.val 100 (.int .i64 ka) (by kernel_rfl) (by kernel_rfl) (by kernel_rfl) (fun _ => rfl) (fun W hS _ => ld63 rfl (by kernel_rfl) ((HC7.out W hS).1.1)) ?_
                              refine Each.val 101 (.bool false) (by kernel_rfl) (by kernel_rfl) (by kernel_rfl) (fun _ => rfl) (fun W hS _ => ex_eql63 rfl (by kernel_rfl) (by kernel_rfl) (show (ka == 1) = false by rw [HK.out]; rfl)) ?_
                              refine Each.val 102 (.bool false) (by kernel_rfl) (by kernel_rfl) (by kernel_rfl) (fun _ => rfl) (fun _ _ _ => by kernel_rfl) ?_
                              refine Each.off 103 (by kernel_rfl) (by kernel_rfl) (by kernel_rfl) ?_
                              refine Each.off 104 (by kernel_rfl) (by kernel_rfl) (by kernel_rfl) ?_
                              refine Each.off 105 (by kernel_rfl) (by kernel_rfl) (by kernel_rfl) ?_
                              refine Each.off 106 (by kernel_rfl) (by kernel_rfl) (by kernel_rfl) ?_
                              refine Each.off 107 (by kernel_rfl) (by kernel_rfl) (by kernel_rfl) ?_
                              refine Each.off 108 (by kernel_rfl) (by kernel_rfl) (by kernel_rfl) ?_
                              refine Each.off 109 (by kernel_rfl) (by kernel_rfl) (by kernel_rfl) ?_
                              refine Each.off 110 (by kernel_rfl) (by kernel_rfl) (by kernel_rfl) ?_
                              refine Each.off 111 (by kernel_rfl) (by kernel_rfl) (by kernel_rfl) ?_
                              refine Each.off 112 (by kernel_rfl) (by kernel_rfl) (by kernel_rfl) ?_
                              refine Each.off 113 (by kernel_rfl) (by kernel_rfl) (by kernel_rfl) ?_
                              refine Each.off 114 (by kernel_rfl) (by kernel_rfl) (by kernel_rfl) ?_
                              refine Each.off 115 (by kernel_rfl) (by kernel_rfl) (by kernel_rfl) ?_
                              refine Each.val 116 (.bool false) (by kernel_rfl) (by kernel_rfl) (by kernel_rfl) (fun _ => rfl) (fun _ _ _ => by kernel_rfl) ?_
                              refine Each.val 117 (.bool false) (by kernel_rfl) (by kernel_rfl) (by kernel_rfl) (fun _ => rfl) (fun _ _ _ => by kernel_rfl) ?_
                              exact trivial
                            · intro w5 hS5
                              obtain rfl : w5 = wc.drew := hS5
                              clear d0 d1
                              go_wp2
                              go_roundw
                              case rel => exact ⟨m + 1, by go_num, by omega, HY, Lib.hid KK.out.2.2.drew⟩
                              case measure => simp [intOf]; omega
                          · have HK := Lib.hid e
                            have HKc : Hid (kc = 1) := Lib.hid (by have := eq_of_beq d0; omega)
                            obtain ⟨t1, ht1, htn1⟩ := HA.out.2 e
                            obtain ⟨t2, ht2, htn2⟩ := HCc.out.2 HKc.out
                            clear e
                            subst ht1
                            subst ht2
                            have HN1 := Lib.hid (fun W (hW : W = wc.drew) => HS1.out t1 htn1 W (by rw [hW]; exact KK.out.2.2.drew.bl))
                            have HN2 := Lib.hid (fun W (hW : W = wc.drew) => HS2.out t2 htn2 W (by rw [hW]; exact KK.out.2.2.drew.bl))
                            cases d2 : ((S1 t1).toList == (S2 t2).toList) with
                            | false =>
                              have HE : Hid (r = false) := Lib.hid (HNo.out (by (try dsimp only); rw [d0, d1, HK.out, Int.toNat_natCast, Int.toNat_natCast, d2]; rfl))
                              refine wp_region_vals0 (N := fun w w' => w' = w) (S := fun W => W = wc.drew)
                                [.pointer (some ⟨Ba, 0, none⟩), .int .i64 ka, .pointer (some ⟨Bc, 0, none⟩), .int .i64 kc, .bool false, .bool false, .pointer (some ⟨Ba, 1, none⟩), .agg #[.int .u64 (wdI sa 0), .int .u64 (wdI sa 1), .int .u64 (wdI sa 2), .int .u64 (wdI sa 3)], .pointer (some ⟨Bc, 1, none⟩), .agg #[.int .u64 (wdI sc 0), .int .u64 (wdI sc 1), .int .u64 (wdI sc 2), .int .u64 (wdI sc 3)], .bool false, .bool false, .bool false, .pointer (some ⟨Ba, 0, none⟩), .int .i64 ka, .bool true, .bool true, .pointer (some ⟨w.heap.size, 0, none⟩), .slice (some ⟨b1, o1, none⟩) g.sorts.length g.sc, .pointer (some ⟨Ba, 5, none⟩), .int .i64 (t1 : Nat), .pointer (some ⟨b1, o1 + t1, none⟩), .string (S1 t1), .pointer (some ⟨w.heap.size + 1, 0, none⟩), .slice (some ⟨b2, o2, none⟩) h.sorts.length h.sc, .pointer (some ⟨Bc, 5, none⟩), .int .i64 (t2 : Nat), .pointer (some ⟨b2, o2 + t2, none⟩), .string (S2 t2), .bool true, .bool true, .bool true]
                                #[.agg #[.slice (some ⟨b1, o1, none⟩) g.sorts.length g.sc, .slice g.pa g.prods.length g.pc, .int .i64 g.start, .slice g.fa g.forbid.length g.fc, .slice g.wa g.follow.length g.wc], .agg #[.slice (some ⟨b2, o2, none⟩) h.sorts.length h.sc, .slice h.pa h.prods.length h.pc, .int .i64 h.start, .slice h.fa h.forbid.length h.fc, .slice h.wa h.follow.length h.wc], .agg #[.int .i64 (j1 : Nat), .slice (some ⟨br1, or1, none⟩) x.right.length x.rc, .string x.cons, .int .i64 x.role, .bool x.prefer, .bool x.avoid, .int .i64 x.frm], .agg #[.int .i64 (j2 : Nat), .slice (some ⟨br2, or2, none⟩) q.right.length q.rc, .string q.cons, .int .i64 q.role, .bool q.prefer, .bool q.avoid, .int .i64 q.frm], .pointer (some ⟨w.heap.size, 0, none⟩), .pointer (some ⟨w.heap.size + 1, 0, none⟩), .pointer (some ⟨w.heap.size + 1 + 1, 0, none⟩), .pointer (some ⟨w.heap.size + 1 + 1 + 1, 0, none⟩), u8, .int .i64 (m : Nat), .pointer (some ⟨Ba, 0, none⟩), .pointer (some ⟨Bc, 0, none⟩), .pointer (some ⟨w.heap.size, 0, none⟩), .slice (some ⟨b1, o1, none⟩) g.sorts.length g.sc, .pointer (some ⟨w.heap.size + 1 + 1, 0, none⟩), .int .i64 (j1 : Nat), .pointer (some ⟨b1, o1 + j1, none⟩), .string (S1 j1), .pointer (some ⟨w.heap.size + 1, 0, none⟩), .slice (some ⟨b2, o2, none⟩) h.sorts.length h.sc, .pointer (some ⟨w.heap.size + 1 + 1 + 1, 0, none⟩), .int .i64 (j2 : Nat), .pointer (some ⟨b2, o2 + j2, none⟩), .string (S2 j2), .bool false, .bool false, .pointer (some ⟨w.heap.size + 1 + 1, 2, none⟩), .string x.cons, .pointer (some ⟨w.heap.size + 1 + 1 + 1, 2, none⟩), .string q.cons, .bool false, .bool false, .bool false, .pointer (some ⟨w.heap.size + 1 + 1, 3, none⟩), .int .i64 x.role, .pointer (some ⟨w.heap.size + 1 + 1 + 1, 3, none⟩), .int .i64 q.role, .bool false, .bool false, .bool false, .pointer (some ⟨w.heap.size + 1 + 1, 1, none⟩), .slice (some ⟨br1, or1, none⟩) x.right.length x.rc, .int .i64 (x.right.length : Nat), .pointer (some ⟨w.heap.size + 1 + 1 + 1, 1, none⟩), .slice (some ⟨br2, or2, none⟩) q.right.length q.rc, .int .i64 (q.right.length : Nat), .bool false, .bool false, .bool false, .pointer (some ⟨w.heap.size + 1 + 1, 6, none⟩), .int .i64 x.frm, .pointer (some ⟨w.heap.size + 1 + 1 + 1, 6, none⟩), .int .i64 q.frm, .bool false, .bool false, .bool false, .pointer (some ⟨w.heap.size + 1 + 1, 4, none⟩), .bool x.prefer, .pointer (some ⟨w.heap.size + 1 + 1 + 1, 4, none⟩), .bool q.prefer, .bool false, .bool false, .bool false, .pointer (some ⟨w.heap.size + 1 + 1, 5, none⟩), .bool x.avoid, .pointer (some ⟨w.heap.size + 1 + 1 + 1, 5, none⟩), .bool q.avoid, .bool false, .bool false, u69, u70, u71, u72, u73, u74, u75, u76, u77, u78, u79, u80, u81, u82, u83, u84, u85, .pointer (some ⟨Ba, 0, none⟩), .int .i64 ka, .pointer (some ⟨Bc, 0, none⟩), .int .i64 kc, .bool false, .bool false, .pointer (some ⟨Ba, 1, none⟩), .agg #[.int .u64 (wdI sa 0), .int .u64 (wdI sa 1), .int .u64 (wdI sa 2), .int .u64 (wdI sa 3)], .pointer (some ⟨Bc, 1, none⟩), .agg #[.int .u64 (wdI sc 0), .int .u64 (wdI sc 1), .int .u64 (wdI sc 2), .int .u64 (wdI sc 3)], .bool false, .bool false, .bool false, .pointer (some ⟨Ba, 0, none⟩), .int .i64 ka, .bool true, .bool true, .pointer (some ⟨w.heap.size, 0, none⟩), .slice (some ⟨b1, o1, none⟩) g.sorts.length g.sc, .pointer (some ⟨Ba, 5, none⟩), .int .i64 (t1 : Nat), .pointer (some ⟨b1, o1 + t1, none⟩), .string (S1 t1), .pointer (some ⟨w.heap.size + 1, 0, none⟩), .slice (some ⟨b2, o2, none⟩) h.sorts.length h.sc, .pointer (some ⟨Bc, 5, none⟩), .int .i64 (t2 : Nat), .pointer (some ⟨b2, o2 + t2, none⟩), .string (S2 t2), .bool true, .bool true, .bool true]
                                rfl (by kernel_rfl) (by kernel_rfl) (by kernel_rfl) (fun _ => rfl) rfl (fun _ _ h h2 => h2.trans h) ?_ ?_
                              · refine Each.val 86 (.pointer (some ⟨Ba, 0, none⟩)) (by kernel_rfl) (by kernel_rfl) (by kernel_rfl) (fun _ => rfl) (fun W hS _ => fa68_0 rfl (by kernel_rfl)) ?_
                                refine Each.val 87 (.int .i64 ka) (by kernel_rfl) (by kernel_rfl) (by kernel_rfl) (fun _ => rfl) (fun W hS _ => ld63 rfl (by kernel_rfl) ((HC7.out W hS).1.1)) ?_
                                refine Each.val 88 (.pointer (some ⟨Bc, 0, none⟩)) (by kernel_rfl) (by kernel_rfl) (by kernel_rfl) (fun _ => rfl) (fun W hS _ => fa68_0 rfl (by kernel_rfl)) ?_
                                refine Each.val 89 (.int .i64 kc) (by kernel_rfl) (by kernel_rfl) (by kernel_rfl) (fun _ => rfl) (fun W hS _ => ld63 rfl (by kernel_rfl) ((HC7.out W hS).2.1.1)) ?_
                                refine Each.val 90 (.bool false) (by kernel_rfl) (by kernel_rfl) (by kernel_rfl) (fun _ => rfl) (fun W hS _ => ex_neq63 rfl (by kernel_rfl) (by kernel_rfl) (d0)) ?_
                                refine Each.val 91 (.bool false) (by kernel_rfl) (by kernel_rfl) (by kernel_rfl) (fun _ => rfl) (fun _ _ _ => by kernel_rfl) ?_
                                refine Each.val 92 (.pointer (some ⟨Ba, 1, none⟩)) (by kernel_rfl) (by kernel_rfl) (by kernel_rfl) (fun _ => rfl) (fun W hS _ => fa68_1 rfl (by kernel_rfl)) ?_
                                refine Each.val 93 (.agg #[.int .u64 (wdI sa 0), .int .u64 (wdI sa 1), .int .u64 (wdI sa 2), .int .u64 (wdI sa 3)]) (by kernel_rfl) (by kernel_rfl) (by kernel_rfl) (fun _ => rfl) (fun W hS _ => ld66w rfl (by kernel_rfl) ((HC7.out W hS).1.2.1)) ?_
                                refine Each.val 94 (.pointer (some ⟨Bc, 1, none⟩)) (by kernel_rfl) (by kernel_rfl) (by kernel_rfl) (fun _ => rfl) (fun W hS _ => fa68_1 rfl (by kernel_rfl)) ?_
                                refine Each.val 95 (.agg #[.int .u64 (wdI sc 0), .int .u64 (wdI sc 1), .int .u64 (wdI sc 2), .int .u64 (wdI sc 3)]) (by kernel_rfl) (by kernel_rfl) (by kernel_rfl) (fun _ => rfl) (fun W hS _ => ld66w rfl (by kernel_rfl) ((HC7.out W hS).2.1.2.1)) ?_
                                refine Each.val 96 (.bool false) (by kernel_rfl) (by kernel_rfl) (by kernel_rfl) (fun _ => rfl) (fun W hS _ => ex_neq66 rfl (by kernel_rfl) (by kernel_rfl) (d1)) ?_
                                refine Each.val 97 (.bool false) (by kernel_rfl) (by kernel_rfl) (by kernel_rfl) (fun _ => rfl) (fun _ _ _ => by kernel_rfl) ?_
                                refine Each.val 98 (.bool false) (by kernel_rfl) (by kernel_rfl) (by kernel_rfl) (fun _ => rfl) (fun _ _ _ => by kernel_rfl) ?_
                                refine Each.val 99 (.pointer (some ⟨Ba, 0, none⟩)) (by kernel_rfl) (by kernel_rfl) (by kernel_rfl) (fun _ => rfl) (fun W hS _ => fa68_0 rfl (by kernel_rfl)) ?_
                                refine Each.val 100 (.int .i64 ka) (by kernel_rfl) (by kernel_rfl) (by kernel_rfl) (fun _ => rfl) (fun W hS _ => ld63 rfl (by kernel_rfl) ((HC7.out W hS).1.1)) ?_
                                refine Each.val 101 (.bool true) (by kernel_rfl) (by kernel_rfl) (by kernel_rfl) (fun _ => rfl) (fun W hS _ => ex_eql63 rfl (by kernel_rfl) (by kernel_rfl) (show (ka == 1) = true by rw [HK.out]; rfl)) ?_
                                refine Each.val 102 (.bool true) (by kernel_rfl) (by kernel_rfl) (by kernel_rfl) (fun _ => rfl) (fun _ _ _ => by kernel_rfl) ?_
                                refine Each.val 103 (.pointer (some ⟨w.heap.size, 0, none⟩)) (by kernel_rfl) (by kernel_rfl) (by kernel_rfl) (fun _ => rfl) (fun W hS _ => fa27_0 rfl (by kernel_rfl)) ?_
                                refine Each.val 104 (.slice (some ⟨b1, o1, none⟩) g.sorts.length g.sc) (by kernel_rfl) (by kernel_rfl) (by kernel_rfl) (fun _ => rfl) (fun W hS _ => ld22 rfl (by kernel_rfl) ((HC7.out W hS).2.2.1)) ?_
                                refine Each.val 105 (.pointer (some ⟨Ba, 5, none⟩)) (by kernel_rfl) (by kernel_rfl) (by kernel_rfl) (fun _ => rfl) (fun W hS _ => fa68_2 rfl (by kernel_rfl)) ?_
                                refine Each.val 106 (.int .i64 (t1 : Nat)) (by kernel_rfl) (by kernel_rfl) (by kernel_rfl) (fun _ => rfl) (fun W hS _ => ld3 rfl (by kernel_rfl) ((HC7.out W hS).1.2.2)) ?_
                                refine Each.val 107 (.pointer (some ⟨b1, o1 + t1, none⟩)) (by kernel_rfl) (by kernel_rfl) (by kernel_rfl) (fun _ => rfl) (fun W hS _ => ix22 (c := g.sc) rfl (by kernel_rfl) (by kernel_rfl) ((htn1)) rfl) ?_
                                refine Each.val 108 (.string (S1 t1)) (by kernel_rfl) (by kernel_rfl) (by kernel_rfl) (fun _ => rfl) (fun W hS _ => ld9 rfl (by kernel_rfl) ((HN1.out W hS))) ?_
                                refine Each.val 109 (.pointer (some ⟨w.heap.size + 1, 0, none⟩)) (by kernel_rfl) (by kernel_rfl) (by kernel_rfl) (fun _ => rfl) (fun W hS _ => fa27_0 rfl (by kernel_rfl)) ?_
                                refine Each.val 110 (.slice (some ⟨b2, o2, none⟩) h.sorts.length h.sc) (by kernel_rfl) (by kernel_rfl) (by kernel_rfl) (fun _ => rfl) (fun W hS _ => ld22 rfl (by kernel_rfl) ((HC7.out W hS).2.2.2)) ?_
                                refine Each.val 111 (.pointer (some ⟨Bc, 5, none⟩)) (by kernel_rfl) (by kernel_rfl) (by kernel_rfl) (fun _ => rfl) (fun W hS _ => fa68_2 rfl (by kernel_rfl)) ?_
                                refine Each.val 112 (.int .i64 (t2 : Nat)) (by kernel_rfl) (by kernel_rfl) (by kernel_rfl) (fun _ => rfl) (fun W hS _ => ld3 rfl (by kernel_rfl) ((HC7.out W hS).2.1.2.2)) ?_
                                refine Each.val 113 (.pointer (some ⟨b2, o2 + t2, none⟩)) (by kernel_rfl) (by kernel_rfl) (by kernel_rfl) (fun _ => rfl) (fun W hS _ => ix22 (c := h.sc) rfl (by kernel_rfl) (by kernel_rfl) ((htn2)) rfl) ?_
                                refine Each.val 114 (.string (S2 t2)) (by kernel_rfl) (by kernel_rfl) (by kernel_rfl) (fun _ => rfl) (fun W hS _ => ld9 rfl (by kernel_rfl) ((HN2.out W hS))) ?_
                                refine Each.val 115 (.bool true) (by kernel_rfl) (by kernel_rfl) (by kernel_rfl) (fun _ => rfl) (fun W hS _ => ex_neq9 rfl (by kernel_rfl) (by kernel_rfl) (d2)) ?_
                                refine Each.val 116 (.bool true) (by kernel_rfl) (by kernel_rfl) (by kernel_rfl) (fun _ => rfl) (fun _ _ _ => by kernel_rfl) ?_
                                refine Each.val 117 (.bool true) (by kernel_rfl) (by kernel_rfl) (by kernel_rfl) (fun _ => rfl) (fun _ _ _ => by kernel_rfl) ?_
                                exact trivial
                              · intro w5 hS5
                                obtain rfl : w5 = wc.drew := hS5
                                go_wp2
                                go_ret
                                exact ⟨by rw [HE.out]; try rfl, KK.out.2.2.drew.bl⟩
                            | true =>
                              have HY := Lib.hid (HYes.out (by (try dsimp only); rw [d0, d1, HK.out, Int.toNat_natCast, Int.toNat_natCast, d2]; rfl))
                              refine wp_region_vals0 (N := fun w w' => w' = w) (S := fun W => W = wc.drew)
                                [.pointer (some ⟨Ba, 0, none⟩), .int .i64 ka, .pointer (some ⟨Bc, 0, none⟩), .int .i64 kc, .bool false, .bool false, .pointer (some ⟨Ba, 1, none⟩), .agg #[.int .u64 (wdI sa 0), .int .u64 (wdI sa 1), .int .u64 (wdI sa 2), .int .u64 (wdI sa 3)], .pointer (some ⟨Bc, 1, none⟩), .agg #[.int .u64 (wdI sc 0), .int .u64 (wdI sc 1), .int .u64 (wdI sc 2), .int .u64 (wdI sc 3)], .bool false, .bool false, .bool false, .pointer (some ⟨Ba, 0, none⟩), .int .i64 ka, .bool true, .bool true, .pointer (some ⟨w.heap.size, 0, none⟩), .slice (some ⟨b1, o1, none⟩) g.sorts.length g.sc, .pointer (some ⟨Ba, 5, none⟩), .int .i64 (t1 : Nat), .pointer (some ⟨b1, o1 + t1, none⟩), .string (S1 t1), .pointer (some ⟨w.heap.size + 1, 0, none⟩), .slice (some ⟨b2, o2, none⟩) h.sorts.length h.sc, .pointer (some ⟨Bc, 5, none⟩), .int .i64 (t2 : Nat), .pointer (some ⟨b2, o2 + t2, none⟩), .string (S2 t2), .bool false, .bool false, .bool false]
                                #[.agg #[.slice (some ⟨b1, o1, none⟩) g.sorts.length g.sc, .slice g.pa g.prods.length g.pc, .int .i64 g.start, .slice g.fa g.forbid.length g.fc, .slice g.wa g.follow.length g.wc], .agg #[.slice (some ⟨b2, o2, none⟩) h.sorts.length h.sc, .slice h.pa h.prods.length h.pc, .int .i64 h.start, .slice h.fa h.forbid.length h.fc, .slice h.wa h.follow.length h.wc], .agg #[.int .i64 (j1 : Nat), .slice (some ⟨br1, or1, none⟩) x.right.length x.rc, .string x.cons, .int .i64 x.role, .bool x.prefer, .bool x.avoid, .int .i64 x.frm], .agg #[.int .i64 (j2 : Nat), .slice (some ⟨br2, or2, none⟩) q.right.length q.rc, .string q.cons, .int .i64 q.role, .bool q.prefer, .bool q.avoid, .int .i64 q.frm], .pointer (some ⟨w.heap.size, 0, none⟩), .pointer (some ⟨w.heap.size + 1, 0, none⟩), .pointer (some ⟨w.heap.size + 1 + 1, 0, none⟩), .pointer (some ⟨w.heap.size + 1 + 1 + 1, 0, none⟩), u8, .int .i64 (m : Nat), .pointer (some ⟨Ba, 0, none⟩), .pointer (some ⟨Bc, 0, none⟩), .pointer (some ⟨w.heap.size, 0, none⟩), .slice (some ⟨b1, o1, none⟩) g.sorts.length g.sc, .pointer (some ⟨w.heap.size + 1 + 1, 0, none⟩), .int .i64 (j1 : Nat), .pointer (some ⟨b1, o1 + j1, none⟩), .string (S1 j1), .pointer (some ⟨w.heap.size + 1, 0, none⟩), .slice (some ⟨b2, o2, none⟩) h.sorts.length h.sc, .pointer (some ⟨w.heap.size + 1 + 1 + 1, 0, none⟩), .int .i64 (j2 : Nat), .pointer (some ⟨b2, o2 + j2, none⟩), .string (S2 j2), .bool false, .bool false, .pointer (some ⟨w.heap.size + 1 + 1, 2, none⟩), .string x.cons, .pointer (some ⟨w.heap.size + 1 + 1 + 1, 2, none⟩), .string q.cons, .bool false, .bool false, .bool false, .pointer (some ⟨w.heap.size + 1 + 1, 3, none⟩), .int .i64 x.role, .pointer (some ⟨w.heap.size + 1 + 1 + 1, 3, none⟩), .int .i64 q.role, .bool false, .bool false, .bool false, .pointer (some ⟨w.heap.size + 1 + 1, 1, none⟩), .slice (some ⟨br1, or1, none⟩) x.right.length x.rc, .int .i64 (x.right.length : Nat), .pointer (some ⟨w.heap.size + 1 + 1 + 1, 1, none⟩), .slice (some ⟨br2, or2, none⟩) q.right.length q.rc, .int .i64 (q.right.length : Nat), .bool false, .bool false, .bool false, .pointer (some ⟨w.heap.size + 1 + 1, 6, none⟩), .int .i64 x.frm, .pointer (some ⟨w.heap.size + 1 + 1 + 1, 6, none⟩), .int .i64 q.frm, .bool false, .bool false, .bool false, .pointer (some ⟨w.heap.size + 1 + 1, 4, none⟩), .bool x.prefer, .pointer (some ⟨w.heap.size + 1 + 1 + 1, 4, none⟩), .bool q.prefer, .bool false, .bool false, .bool false, .pointer (some ⟨w.heap.size + 1 + 1, 5, none⟩), .bool x.avoid, .pointer (some ⟨w.heap.size + 1 + 1 + 1, 5, none⟩), .bool q.avoid, .bool false, .bool false, u69, u70, u71, u72, u73, u74, u75, u76, u77, u78, u79, u80, u81, u82, u83, u84, u85, .pointer (some ⟨Ba, 0, none⟩), .int .i64 ka, .pointer (some ⟨Bc, 0, none⟩), .int .i64 kc, .bool false, .bool false, .pointer (some ⟨Ba, 1, none⟩), .agg #[.int .u64 (wdI sa 0), .int .u64 (wdI sa 1), .int .u64 (wdI sa 2), .int .u64 (wdI sa 3)], .pointer (some ⟨Bc, 1, none⟩), .agg #[.int .u64 (wdI sc 0), .int .u64 (wdI sc 1), .int .u64 (wdI sc 2), .int .u64 (wdI sc 3)], .bool false, .bool false, .bool false, .pointer (some ⟨Ba, 0, none⟩), .int .i64 ka, .bool true, .bool true, .pointer (some ⟨w.heap.size, 0, none⟩), .slice (some ⟨b1, o1, none⟩) g.sorts.length g.sc, .pointer (some ⟨Ba, 5, none⟩), .int .i64 (t1 : Nat), .pointer (some ⟨b1, o1 + t1, none⟩), .string (S1 t1), .pointer (some ⟨w.heap.size + 1, 0, none⟩), .slice (some ⟨b2, o2, none⟩) h.sorts.length h.sc, .pointer (some ⟨Bc, 5, none⟩), .int .i64 (t2 : Nat), .pointer (some ⟨b2, o2 + t2, none⟩), .string (S2 t2), .bool false, .bool false, .bool false]
                                rfl (by kernel_rfl) (by kernel_rfl) (by kernel_rfl) (fun _ => rfl) rfl (fun _ _ h h2 => h2.trans h) ?_ ?_
                              · refine Each.val 86 (.pointer (some ⟨Ba, 0, none⟩)) (by kernel_rfl) (by kernel_rfl) (by kernel_rfl) (fun _ => rfl) (fun W hS _ => fa68_0 rfl (by kernel_rfl)) ?_
                                refine Each.val 87 (.int .i64 ka) (by kernel_rfl) (by kernel_rfl) (by kernel_rfl) (fun _ => rfl) (fun W hS _ => ld63 rfl (by kernel_rfl) ((HC7.out W hS).1.1)) ?_
                                refine Each.val 88 (.pointer (some ⟨Bc, 0, none⟩)) (by kernel_rfl) (by kernel_rfl) (by kernel_rfl) (fun _ => rfl) (fun W hS _ => fa68_0 rfl (by kernel_rfl)) ?_
                                refine Each.val 89 (.int .i64 kc) (by kernel_rfl) (by kernel_rfl) (by kernel_rfl) (fun _ => rfl) (fun W hS _ => ld63 rfl (by kernel_rfl) ((HC7.out W hS).2.1.1)) ?_
                                refine Each.val 90 (.bool false) (by kernel_rfl) (by kernel_rfl) (by kernel_rfl) (fun _ => rfl) (fun W hS _ => ex_neq63 rfl (by kernel_rfl) (by kernel_rfl) (d0)) ?_
                                refine Each.val 91 (.bool false) (by kernel_rfl) (by kernel_rfl) (by kernel_rfl) (fun _ => rfl) (fun _ _ _ => by kernel_rfl) ?_
                                refine Each.val 92 (.pointer (some ⟨Ba, 1, none⟩)) (by kernel_rfl) (by kernel_rfl) (by kernel_rfl) (fun _ => rfl) (fun W hS _ => fa68_1 rfl (by kernel_rfl)) ?_
                                refine Each.val 93 (.agg #[.int .u64 (wdI sa 0), .int .u64 (wdI sa 1), .int .u64 (wdI sa 2), .int .u64 (wdI sa 3)]) (by kernel_rfl) (by kernel_rfl) (by kernel_rfl) (fun _ => rfl) (fun W hS _ => ld66w rfl (by kernel_rfl) ((HC7.out W hS).1.2.1)) ?_
                                refine Each.val 94 (.pointer (some ⟨Bc, 1, none⟩)) (by kernel_rfl) (by kernel_rfl) (by kernel_rfl) (fun _ => rfl) (fun W hS _ => fa68_1 rfl (by kernel_rfl)) ?_
                                refine Each.val 95 (.agg #[.int .u64 (wdI sc 0), .int .u64 (wdI sc 1), .int .u64 (wdI sc 2), .int .u64 (wdI sc 3)]) (by kernel_rfl) (by kernel_rfl) (by kernel_rfl) (fun _ => rfl) (fun W hS _ => ld66w rfl (by kernel_rfl) ((HC7.out W hS).2.1.2.1)) ?_
                                refine Each.val 96 (.bool false) (by kernel_rfl) (by kernel_rfl) (by kernel_rfl) (fun _ => rfl) (fun W hS _ => ex_neq66 rfl (by kernel_rfl) (by kernel_rfl) (d1)) ?_
                                refine Each.val 97 (.bool false) (by kernel_rfl) (by kernel_rfl) (by kernel_rfl) (fun _ => rfl) (fun _ _ _ => by kernel_rfl) ?_
                                refine Each.val 98 (.bool false) (by kernel_rfl) (by kernel_rfl) (by kernel_rfl) (fun _ => rfl) (fun _ _ _ => by kernel_rfl) ?_
                                refine Each.val 99 (.pointer (some ⟨Ba, 0, none⟩)) (by kernel_rfl) (by kernel_rfl) (by kernel_rfl) (fun _ => rfl) (fun W hS _ => fa68_0 rfl (by kernel_rfl)) ?_
                                refine Each.val 100 (.int .i64 ka) (by kernel_rfl) (by kernel_rfl) (by kernel_rfl) (fun _ => rfl) (fun W hS _ => ld63 rfl (by kernel_rfl) ((HC7.out W hS).1.1)) ?_
                                refine Each.val 101 (.bool true) (by kernel_rfl) (by kernel_rfl) (by kernel_rfl) (fun _ => rfl) (fun W hS _ => ex_eql63 rfl (by kernel_rfl) (by kernel_rfl) (show (ka == 1) = true by rw [HK.out]; rfl)) ?_
                                refine Each.val 102 (.bool true) (by kernel_rfl) (by kernel_rfl) (by kernel_rfl) (fun _ => rfl) (fun _ _ _ => by kernel_rfl) ?_
                                refine Each.val 103 (.pointer (some ⟨w.heap.size, 0, none⟩)) (by kernel_rfl) (by kernel_rfl) (by kernel_rfl) (fun _ => rfl) (fun W hS _ => fa27_0 rfl (by kernel_rfl)) ?_
                                refine Each.val 104 (.slice (some ⟨b1, o1, none⟩) g.sorts.length g.sc) (by kernel_rfl) (by kernel_rfl) (by kernel_rfl) (fun _ => rfl) (fun W hS _ => ld22 rfl (by kernel_rfl) ((HC7.out W hS).2.2.1)) ?_
                                refine Each.val 105 (.pointer (some ⟨Ba, 5, none⟩)) (by kernel_rfl) (by kernel_rfl) (by kernel_rfl) (fun _ => rfl) (fun W hS _ => fa68_2 rfl (by kernel_rfl)) ?_
                                refine Each.val 106 (.int .i64 (t1 : Nat)) (by kernel_rfl) (by kernel_rfl) (by kernel_rfl) (fun _ => rfl) (fun W hS _ => ld3 rfl (by kernel_rfl) ((HC7.out W hS).1.2.2)) ?_
                                refine Each.val 107 (.pointer (some ⟨b1, o1 + t1, none⟩)) (by kernel_rfl) (by kernel_rfl) (by kernel_rfl) (fun _ => rfl) (fun W hS _ => ix22 (c := g.sc) rfl (by kernel_rfl) (by kernel_rfl) ((htn1)) rfl) ?_
                                refine Each.val 108 (.string (S1 t1)) (by kernel_rfl) (by kernel_rfl) (by kernel_rfl) (fun _ => rfl) (fun W hS _ => ld9 rfl (by kernel_rfl) ((HN1.out W hS))) ?_
                                refine Each.val 109 (.pointer (some ⟨w.heap.size + 1, 0, none⟩)) (by kernel_rfl) (by kernel_rfl) (by kernel_rfl) (fun _ => rfl) (fun W hS _ => fa27_0 rfl (by kernel_rfl)) ?_
                                refine Each.val 110 (.slice (some ⟨b2, o2, none⟩) h.sorts.length h.sc) (by kernel_rfl) (by kernel_rfl) (by kernel_rfl) (fun _ => rfl) (fun W hS _ => ld22 rfl (by kernel_rfl) ((HC7.out W hS).2.2.2)) ?_
                                refine Each.val 111 (.pointer (some ⟨Bc, 5, none⟩)) (by kernel_rfl) (by kernel_rfl) (by kernel_rfl) (fun _ => rfl) (fun W hS _ => fa68_2 rfl (by kernel_rfl)) ?_
                                refine Each.val 112 (.int .i64 (t2 : Nat)) (by kernel_rfl) (by kernel_rfl) (by kernel_rfl) (fun _ => rfl) (fun W hS _ => ld3 rfl (by kernel_rfl) ((HC7.out W hS).2.1.2.2)) ?_
                                refine Each.val 113 (.pointer (some ⟨b2, o2 + t2, none⟩)) (by kernel_rfl) (by kernel_rfl) (by kernel_rfl) (fun _ => rfl) (fun W hS _ => ix22 (c := h.sc) rfl (by kernel_rfl) (by kernel_rfl) ((htn2)) rfl) ?_
                                refine Each.val 114 (.string (S2 t2)) (by kernel_rfl) (by kernel_rfl) (by kernel_rfl) (fun _ => rfl) (fun W hS _ => ld9 rfl (by kernel_rfl) ((HN2.out W hS))) ?_
                                refine Each.val 115 (.bool false) (by kernel_rfl) (by kernel_rfl) (by kernel_rfl) (fun _ => rfl) (fun W hS _ => ex_neq9 rfl (by kernel_rfl) (by kernel_rfl) (d2)) ?_
                                refine Each.val 116 (.bool false) (by kernel_rfl) (by kernel_rfl) (by kernel_rfl) (fun _ => rfl) (fun _ _ _ => by kernel_rfl) ?_
                                refine Each.val 117 (.bool false) (by kernel_rfl) (by kernel_rfl) (by kernel_rfl) (fun _ => rfl) (fun _ _ _ => by kernel_rfl) ?_
                                exact trivial
                              · intro w5 hS5
                                obtain rfl : w5 = wc.drew := hS5
                                clear d0 d1 d2
                                go_wp2
                                go_roundw
                                case rel => exact ⟨m + 1, by go_num, by omega, HY, Lib.hid KK.out.2.2.drew⟩
                                case measure => simp [intOf]; omega
                    · obtain rfl : m = x.right.length := by omega
                      have HE : Hid (r = true) := Lib.hid (by rw [HE1.out]; exact eqL_yes HML.out fun i a c h1 h2 => hS.out i a c (List.getElem?_eq_some_iff.1 h1).1 h1 h2)
                      clear hS hlm hm
                      go_wp2
                      go_ret
                      exact ⟨by rw [HE.out]; try rfl, K.out.bl⟩
end Go.Proofs.Ytiihdbchchnncaa
end
