import Derived.BigQuiet
import Derived.Deep.QuietTactic
import Derived.Test.YtodnlcbnbkkanaaGreatDoorN13
section
namespace Go.Proofs.YtodnlcbnbkkanaaGreatDoor
open Go Go.RowKit Go.Vals

section
variable {w : World} {o : Oper} {ρ : Operand → Value}
theorem ld38 {x : Operand} {p : Addr} {v : Value} (ho : o.op = .load 38 x) (hx : ρ x = .pointer (some p)) (hc : w.cell? p = some v) : (execOp ρ o).run Tryz.prog w = .ok (.value v) w := by
  unfold execOp; rw [ho]; simp only [hx]
  go_simp
theorem ld47s {x : Operand} {b q : Nat} {u0 u1 u2 u3 : Value} (ho : o.op = .load 47 x) (hx : ρ x = .pointer (some ⟨b, q, none⟩)) (h : w.cell? ⟨b, q, none⟩ = some u0 ∧ w.cell? ⟨b, q + 1, none⟩ = some u1 ∧ w.cell? ⟨b, q + 2, none⟩ = some u2 ∧ w.cell? ⟨b, q + 3, none⟩ = some u3) :
    (execOp ρ o).run Tryz.prog w = .ok (.value (.agg #[u0, u1, u2, u3])) w := by
  obtain ⟨c0, c1, c2, c3⟩ := h
  unfold execOp; rw [ho]; simp only [hx]
  go_simp
theorem fa75_1 {x : Operand} {g m : Nat} (ho : o.op = .fieldAddr 75 x 1) (hx : ρ x = .pointer (some ⟨g, m, none⟩)) : (execOp ρ o).run Tryz.prog w = .ok (.value (.pointer (some ⟨g, m + 5, none⟩))) w := by
  unfold execOp; rw [ho]; simp only [hx]
  go_simp
theorem fa75_2 {x : Operand} {g m : Nat} (ho : o.op = .fieldAddr 75 x 2) (hx : ρ x = .pointer (some ⟨g, m, none⟩)) : (execOp ρ o).run Tryz.prog w = .ok (.value (.pointer (some ⟨g, m + 6, none⟩))) w := by
  unfold execOp; rw [ho]; simp only [hx]
  go_simp
theorem fa75_3 {x : Operand} {g m : Nat} (ho : o.op = .fieldAddr 75 x 3) (hx : ρ x = .pointer (some ⟨g, m, none⟩)) : (execOp ρ o).run Tryz.prog w = .ok (.value (.pointer (some ⟨g, m + 7, none⟩))) w := by
  unfold execOp; rw [ho]; simp only [hx]
  go_simp
theorem fa75_4 {x : Operand} {g m : Nat} (ho : o.op = .fieldAddr 75 x 4) (hx : ρ x = .pointer (some ⟨g, m, none⟩)) : (execOp ρ o).run Tryz.prog w = .ok (.value (.pointer (some ⟨g, m + 8, none⟩))) w := by
  unfold execOp; rw [ho]; simp only [hx]
  go_simp
theorem fa75_5 {x : Operand} {g m : Nat} (ho : o.op = .fieldAddr 75 x 5) (hx : ρ x = .pointer (some ⟨g, m, none⟩)) : (execOp ρ o).run Tryz.prog w = .ok (.value (.pointer (some ⟨g, m + 9, none⟩))) w := by
  unfold execOp; rw [ho]; simp only [hx]
  go_simp
theorem fa75_6 {x : Operand} {g m : Nat} (ho : o.op = .fieldAddr 75 x 6) (hx : ρ x = .pointer (some ⟨g, m, none⟩)) : (execOp ρ o).run Tryz.prog w = .ok (.value (.pointer (some ⟨g, m + 10, none⟩))) w := by
  unfold execOp; rw [ho]; simp only [hx]
  go_simp
theorem fa75_7 {x : Operand} {g m : Nat} (ho : o.op = .fieldAddr 75 x 7) (hx : ρ x = .pointer (some ⟨g, m, none⟩)) : (execOp ρ o).run Tryz.prog w = .ok (.value (.pointer (some ⟨g, m + 11, none⟩))) w := by
  unfold execOp; rw [ho]; simp only [hx]
  go_simp
theorem ix38 {x y : Operand} {g f n c k q : Nat} (ho : o.op = .indexAddr 38 x y) (hx : ρ x = .slice (some ⟨g, f, none⟩) n c) (hy : ρ y = .int .i64 (k : Int)) (hk : k < n) (hq : f + k * 4 = q) : (execOp ρ o).run Tryz.prog w = .ok (.value (.pointer (some ⟨g, q, none⟩))) w := by
  subst hq
  unfold execOp; rw [ho]; simp only [hx, hy]
  have h0 : (0 : Int) ≤ k := by omega
  have h1 : (k : Int) < n := by omega
  go_simp
theorem ix9 {x y : Operand} {s : ByteArray} {k : Nat} (ho : o.op = .index 9 x y) (hx : ρ x = .string s) (hy : ρ y = .int .i64 (k : Int)) (hk : k < s.size) : (execOp ρ o).run Tryz.prog w = .ok (.value (.int .u8 ((s[k]'hk).toNat : Int))) w := by
  unfold execOp; rw [ho]; simp only [hx, hy]
  have h0 : (0 : Int) ≤ k := by omega
  have h1 : (k : Int) < s.size := by omega
  go_simp
theorem sb3 {x y : Operand} {a b : Nat} (ho : o.op = .binOp .sub 3 x y 3) (hx : ρ x = .int .i64 ((a + b : Nat) : Int)) (hy : ρ y = .int .i64 (a : Int)) (hb : a + b ≤ 1048576) : (execOp ρ o).run Tryz.prog w = .ok (.value (.int .i64 (b : Int))) w := by
  unfold execOp; rw [ho]; simp only [hx, hy]
  have h1 : IntKind.i64.wrap ((a : Int) + (b : Int) - (a : Int)) = (b : Int) := by
    rw [show (a : Int) + (b : Int) - (a : Int) = (b : Int) by omega]
    exact IntWalk.i64_in _ (by omega)
  go_simp
theorem st4 {x y : Operand} {p q : Nat} {u : Value} {b : Bool} (ho : o.op = .store 4 x y) (hx : ρ x = .pointer (some ⟨p, q, none⟩)) (hy : ρ y = .bool b) (hc : w.cell? ⟨p, q, none⟩ = some u) (hf : w.frozen? ⟨p, q, none⟩ = false) (hl : p < w.heap.size) : (execOp ρ o).run Tryz.prog w = .ok .skip (w.setCell ⟨p, q, none⟩ (.bool b)) := by
  unfold execOp; rw [ho]; simp only [hx, hy]
  go_simp
end

structure TC (D : TD) (k len : Nat) (v : Int) (W : World) : Prop where
  t5 : W.cell? ⟨D.T, 0 + 5, none⟩ = some (.slice (some ⟨D.Bf, 0, none⟩) D.g.sorts.length D.cf)
  t6 : W.cell? ⟨D.T, 0 + 6, none⟩ = some (.slice (some ⟨D.Bo, 0, none⟩) D.g.sorts.length D.co)
  t7 : W.cell? ⟨D.T, 0 + 7, none⟩ = some (.slice (some ⟨D.Bl, 0, none⟩) D.g.sorts.length D.g.sorts.length)
  t8 : W.cell? ⟨D.T, 0 + 8, none⟩ = some (.slice (some ⟨D.Bn, 0, none⟩) D.g.sorts.length D.g.sorts.length)
  t9 : W.cell? ⟨D.T, 0 + 9, none⟩ = some (.slice (some ⟨D.Be, 0, none⟩) D.g.sorts.length D.ce)
  t10 : W.cell? ⟨D.T, 0 + 10, none⟩ = some (.slice (some ⟨D.Bs, 0, none⟩) D.g.sorts.length D.cs)
  t11 : W.cell? ⟨D.T, 0 + 11, none⟩ = some (.bool true)
  lk : W.cell? ⟨D.Bl, 0 + k, none⟩ = some (.bool true)
  sk : W.cell? ⟨D.Bs, 0 + k, none⟩ = some (.int .i64 v)
  nk : len = 0 → W.cell? ⟨D.Bn, 0 + k, none⟩ = some (.bool true)
theorem bools_true {W : World} {B : Nat} {L : List Bool} {k : Nat} (h : Blk W B 4 (bools L)) (hk : L[k]? = some true) : W.cell? ⟨B, 0 + k, none⟩ = some (.bool true) := by
  rw [Nat.zero_add, h.cell k, bools_at _ _ (List.getElem?_eq_some_iff.1 hk).1]
  unfold lv
  rw [Int.toNat_natCast, List.getD_eq_getElem?_getD, hk]
  rfl
theorem TW.tc {D : TD} {w0 W : World} (h : TW D w0 W) {k len : Nat} {v : Int} (hl : D.L[k]? = some true) (hs : D.S[k]? = some v) (hn : len = 0 → D.N[k]? = some true) : TC D k len v W := by
  have ht := h.t
  refine ⟨ht.cell 5, ht.cell 6, ht.cell 7, ht.cell 8, ht.cell 9, ht.cell 10, ht.cell 11, bools_true h.l hl, ?_, fun e => bools_true h.n (hn e)⟩
  obtain ⟨b, o, e, hb, hc, _⟩ := h.s k v hs
  cases e
  have := hc 0 (.int .i64 v) rfl
  rw [Nat.mul_one, Nat.add_zero] at this
  exact this
theorem set_at {W : World} {B k : Nat} {cs : Array Value} {s : BS} (h : Blk W B 47 cs) (hS : SetAt cs (k * 4) s) : W.cell? ⟨B, 0 + k * 4, none⟩ = some (.int .u64 (wdI s 0)) ∧ W.cell? ⟨B, 0 + k * 4 + 1, none⟩ = some (.int .u64 (wdI s 1)) ∧ W.cell? ⟨B, 0 + k * 4 + 2, none⟩ = some (.int .u64 (wdI s 2)) ∧ W.cell? ⟨B, 0 + k * 4 + 3, none⟩ = some (.int .u64 (wdI s 3)) := by
  have c0 := (h.cell (k * 4 + 0)).trans (set_cell hS (j := 0) (by decide))
  rw [Nat.add_zero] at c0
  rw [Nat.zero_add]
  exact ⟨c0, (h.cell (k * 4 + 1)).trans (set_cell hS (j := 1) (by decide)), (h.cell (k * 4 + 2)).trans (set_cell hS (j := 2) (by decide)), (h.cell (k * 4 + 3)).trans (set_cell hS (j := 3) (by decide))⟩
theorem TW.again {D : TD} {w0 W : World} (h : TW D w0 W) : TW D w0 (W.setCell ⟨D.T, 0 + 11, none⟩ (.bool true)) := by
  have h1 := h.t.set (0 + 11) (.bool true)
  exact h.kept (grown_set W D.T (0 + 11) _) h1
theorem byte_at {tx : ByteArray} {l : List UInt8} {k : Nat} {c : UInt8} (h : tx.data.toList.drop k = c :: l) (hk : k < tx.size) : (tx[k]'hk) = c := by
  have h1 := congrArg (fun l => l[0]?) h
  simp only [List.getElem?_drop, List.getElem?_cons_zero, Nat.add_zero] at h1
  have h2 : tx.data.toList[k]? = some (tx[k]'hk) := by
    rw [Array.getElem?_toList, Array.getElem?_eq_getElem hk]
    rfl
  rw [h2] at h1
  exact Option.some.inj h1

set_option maxRecDepth 100000 in
set_option maxHeartbeats 16000000 in
theorem goes_node (D : TD) (hm : MayB D.g) (hs : MaySet D.g) (hT : ToldL D.g D.F D.FO D.L D.N D.E D.S) (hat1 : ∀ (k : Nat) (s : BS), D.F[k]? = some s → SetAt D.csF (k * 4) s) (hat2 : ∀ (k : Nat) (s : BS), D.FO[k]? = some s → SetAt D.csO (k * 4) s) (hat3 : ∀ (k : Nat) (s : Bool), D.E[k]? = some s → D.csE[k]? = some (.bool s))
    (w0 : World) (hg : GIn w0 D.g) (tx : ByteArray) (hsz : tx.size ≤ 1048576) (d : Nat)
    (ih : ∀ (t : TreeM) (at_ : Nat) (whole : Bool) (rest : List UInt8) (w : World), TW D w0 w → TreeIn w0 t → GoesH D.g d t tx.data.toList at_ whole rest → Calls Tryz.prog 37 #[.pointer (some ⟨D.T, 0, none⟩), treeV t, .int .i64 at_, .string tx, .bool whole] w (GoesPost D (at_ + (yieldL d t).length) w))
    (m : Nat) (b : Int) (ka : Option Addr) (kc : Nat) (kids : List TreeM) (at_ : Nat) (whole : Bool) (rest : List UInt8) (w : World) (hw : TW D w0 w) (hin : TreeIn w0 (.node (m : Int) b ka kc kids)) (hG : GoesH D.g (d + 1) (.node (m : Int) b ka kc kids) tx.data.toList at_ whole rest) :
    Calls Tryz.prog 37 #[.pointer (some ⟨D.T, 0, none⟩), treeV (.node (m : Int) b ka kc kids), .int .i64 at_, .string tx, .bool whole] w (GoesPost D (at_ + (yieldL (d + 1) (.node (m : Int) b ka kc kids)).length) w) := by
  rcases hG.kind with h | ⟨htb, hctx⟩
  · have : ((m : Nat) : Int) < 0 := h
    omega
  obtain ⟨m', x, e, hx, hr, hl, hks⟩ := treeB_out htb
  have e' : m = m' := by omega
  subst e'
  have hxm := List.mem_of_getElem? hx
  have htx := tree_tx hm (d + 1) _ htb hG.nest hG.fit x (by show D.g.prods[((m : Nat) : Int).toNat]? = some x; rw [Int.toNat_natCast]; exact hx)
  have hcx : whole = true → Ctx D.g x.left.toNat rest := fun h => hctx h x (by show D.g.prods[((m : Nat) : Int).toNat]? = some x; rw [Int.toNat_natCast]; exact hx)
  obtain ⟨k, hk, hkn⟩ := hm.left x hxm
  rw [hk, Int.toNat_natCast] at htx hcx
  have hend := hG.end_
  have hle := hG.le
  have hY : yieldL (d + 1) (.node (m : Int) b ka kc kids) = kids.flatMap (yieldL d) := by rw [yieldL, if_neg (by omega)]
  rw [hY] at htx hend ⊢
  have htxt := hG.txt
  rw [hY] at htxt
  obtain ⟨len, hlen⟩ : ∃ len, len = (kids.flatMap (yieldL d)).length := ⟨_, rfl⟩
  have hsize : tx.data.toList.length = tx.size := by rw [Array.length_toList]; rfl
  rw [hsize] at hle hend
  have htold := hT.tx hm hs htx
  have HTold := Lib.hid htold
  have HTxt := Lib.hid (And.intro htxt (And.intro hlen hcx))
  have HTr := Lib.hid ((tree_in _ _ _ _ _ _).1 hin)
  have HKid := Lib.hid (fun (i : Nat) (t : TreeM) (h : kids[i]? = some t) => hG.kid hm h)
  have HIh := Lib.hid ih
  have HHm := Lib.hid (And.intro hm (And.intro hT (And.intro hat1 (And.intro hat2 hat3))))
  rw [← hlen] at hend ⊢
  have hlen1 : at_ + len ≤ tx.size := by omega
  obtain ⟨nk, hnk⟩ : ∃ nk, nk = kids.length := ⟨_, rfl⟩
  have HNk := Lib.hid hnk
  have hnk1 : nk ≤ 1048576 := by rw [hnk]; exact hG.fit.1
  obtain ⟨b1, o1, e1, hb1, hc1, _⟩ := hg.prods m x hx
  have hBw : Below w.heap.size w (w.alloc (.cells #[.int .i64 (m : Int), .int .u8 b, .slice ka nk kc] 70)) := (Below.refl _ _).alloc (Nat.le_refl _) _
  have hw1 := hw.below hBw
  have HW1 : Hid (TW D w0 (w.alloc (.cells #[.int .i64 (m : Int), .int .u8 b, .slice ka nk kc] 70)) ∧ Blk (w.alloc (.cells #[.int .i64 (m : Int), .int .u8 b, .slice ka nk kc] 70)) w.heap.size 70 #[.int .i64 (m : Int), .int .u8 b, .slice ka nk kc] ∧ w.grownBy (w.alloc (.cells #[.int .i64 (m : Int), .int .u8 b, .slice ka nk kc] 70)) (some D.T)) := Lib.hid ⟨hw1, Blk.new w 70 _, grown_below hBw _⟩
  have hTne : w.heap.size ≠ D.T := by have := hw.t.lt; omega
  have hmn : (m : Int) < (D.g.prods.length : Int) := by have := (List.getElem?_eq_some_iff.1 hx).1; omega
  have hm0 : (0 : Int) ≤ (m : Int) := by omega
  have x0 := (Prod_at (hc1.below hw1.b hb1)).1
  rw [hk] at x0
  have hb1' := Nat.lt_of_lt_of_le hb1 hw1.b.size
  have t1 := hw1.t.cell 1
  have tl := hw1.t.lt
  have q0 := (Blk.new w 70 #[.int .i64 (m : Int), .int .u8 b, .slice ka nk kc]).cell 0
  simp only [TD.cells, List.getElem?_toArray, List.getElem?_cons_zero, List.getElem?_cons_succ] at t1 q0
  rw [e1] at t1
  have HX := Lib.hid (And.intro hx (And.intro hxm (And.intro hr (And.intro hl (And.intro hk hkn)))))
  unfold treeV treeC
  dsimp only
  rw [← hnk]
  have HPost : Hid (∀ (V : World), w.grownBy V (some D.T) → Blk V D.T 75 D.cells → GoesPost D (at_ + len) w (.returned (.int .i64 ((at_ + len : Nat) : Int))) V) := Lib.hid (fun V h1 h2 => ⟨rfl, h1, h2⟩)
  generalize GoesPost D (at_ + len) w = PP at *
  clear hw hin hG htb hctx hks hx hxm htx hcx hY htxt hlen hsize htold ih hm hs hT hat1 hat2 hat3 hg hc1 e1 hBw hw1 hnk hr hl hk
  go_enter Tryz.func37, Tryz.ntmps37
  go_wp2
  go_quiet (fail)
  go_wp2
  go_loopw [12, 13] (fun ve vi wr => ∃ i : Nat, vi = .int .i64 i ∧ i ≤ nk ∧ (∃ en : Nat, ve = .int .i64 en ∧ en ≤ 1048576 ∧ Hid (en = at_ + ((kids.take i).flatMap (yieldL d)).length)) ∧ Hid (TW D w0 wr ∧ Blk wr w.heap.size 70 #[.int .i64 (m : Int), .int .u8 b, .slice ka nk kc] ∧ w.grownBy wr (some D.T))) (fun _ vi _ => nk - (intOf vi).toNat)
  case atStart => exact ⟨0, rfl, Nat.zero_le _, ⟨at_, rfl, by omega, Lib.hid (by simp)⟩, Lib.hid ⟨HW1.out.1.below (below_drewN (Below.refl _ _) _), HW1.out.2.1.below (below_drewN (Below.refl _ _) _) HW1.out.2.1.lt, grown_trans HW1.out.2.2 (grown_below (below_drewN (Below.refl _ _) _) _)⟩⟩
  case round =>
    clear HW1 x0 t1 tl q0 hb1 hb1'
    obtain ⟨i, rfl, hi, ⟨en, rfl, hen, HEn⟩, K⟩ := hrel
    obtain ⟨c0, c1, c2⟩ := cells3t K.out.2.1
    have l0 := K.out.2.1.lt
    by_cases hlt : i < nk
    · obtain ⟨t, ht⟩ : ∃ t, kids[i]? = some t := ⟨_, List.getElem?_eq_getElem (by rw [← HNk.out]; exact hlt)⟩
      obtain ⟨b2, o2, e2, hb2, hc2, hi2⟩ := HTr.out i t ht
      have HC := Lib.hid (HIh.out t _ whole _ wr K.out.1 hi2 (HKid.out i t ht))
      rw [← HEn.out] at HC
      have HSn := Lib.hid (flat_snoc (f := yieldL d) ht)
      have hen2 : en + (yieldL d t).length ≤ 1048576 := by
        have h := (HKid.out i t ht).end_
        rw [← HEn.out] at h
        have : tx.data.toList.length = tx.size := by rw [Array.length_toList]; rfl
        omega
      have hb2' := Nat.lt_of_lt_of_le hb2 K.out.1.b.size
      have z1 : (i : Int) < (nk : Int) := by omega
      have z0 : (0 : Int) ≤ (i : Int) := by omega
      have hcx := hc2.below K.out.1.b hb2
      obtain ⟨ly, hly⟩ : ∃ ly, ly = (yieldL d t).length := ⟨_, rfl⟩
      rw [← hly] at HC hen2 HSn
      rw [e2] at c2
      clear ht hc2 hi2 hly e2
      obtain ⟨xp, xb, xa, xc, xk⟩ := t
      obtain ⟨x0, x1, x2⟩ := Tree_at hcx
      unfold treeV treeC at HC
      unfold GoesPost at HC
      clear hcx
      go_wp2_with fail
      with_reducible refine HC.out.mono ?_
      rintro e w3 ⟨rfl, hg3, ht3⟩
      have HZ : Hid (TW D w0 w3 ∧ Blk w3 w.heap.size 70 #[.int .i64 (m : Int), .int .u8 b, .slice ka nk kc] ∧ w.grownBy w3 (some D.T)) := Lib.hid ⟨K.out.1.kept hg3 ht3, K.out.2.1.kept hg3 (by simpa using hTne), grown_trans K.out.2.2 hg3⟩
      have HE2 : Hid (en + ly = at_ + ((kids.take (i + 1)).flatMap (yieldL d)).length) := Lib.hid (by rw [HSn.out, HEn.out]; omega)
      clear hg3 ht3 HC c0 c1 c2 l0 x0 x1 x2
      go_wp2
      go_roundw
      case rel => exact ⟨i + 1, by go_num, by omega, ⟨en + ly, rfl, by omega, HE2⟩, HZ⟩
      case measure => simp [intOf]; omega
    · obtain rfl : i = nk := by omega
      have he9 : en = at_ + len := by rw [HEn.out, HNk.out, List.take_length, HTxt.out.2.1]
      subst he9
      have HK := Lib.hid K.out
      clear K HEn HKid HIh HTr
      have hTold := HTold.out
      obtain ⟨q1, q2, ⟨v, q3, hv0, hv1⟩, q4, q5⟩ := hTold
      rw [ub_length, ← HTxt.out.2.1] at hv1
      have HTW : Hid (∀ W, Below wr.heap.size wr W → TC D k len v W) := Lib.hid (fun W hS => (HK.out.1.below hS).tc q2 q3 (fun e => q4 (List.length_eq_zero_iff.1 (by rw [ub_length, ← HTxt.out.2.1]; exact e))))
      have HQ5 := Lib.hid q5
      have HTold2 := Lib.hid (And.intro q2 (And.intro q3 (fun e : len = 0 => q4 (List.length_eq_zero_iff.1 (by rw [ub_length, ← HTxt.out.2.1]; exact e)))))
      clear q1 q2 q3 q4 q5
      go_upto_region 9 with fail
      go_cut [12] from 47 to 117 (fun s12 wx => s12 = .int .i64 ((at_ + len : Nat) : Int) ∧ Hid (TW D w0 wx ∧ w.grownBy wx (some D.T)))
      case first =>
        have hN : ∀ W : World, Below W.heap.size W W := fun W => Below.refl _ W
        go_wp2
        by_cases hl0 : len = 0
        · clear HTold HTold2 HQ5
          refine wp_region_vals_sink (N := fun W W' => Below W.heap.size W W') (S := fun W => Below wr.heap.size wr W) 71
            [.pointer (some ⟨D.T, 0, none⟩), .pointer (some ⟨D.T, 0, none⟩), .pointer (some ⟨D.T, 0, none⟩), .pointer (some ⟨D.T, 0 + 11, none⟩), .bool true, .bool true, .pointer (some ⟨D.T, 0, none⟩), .pointer (some ⟨D.T, 0, none⟩), .pointer (some ⟨D.T, 0 + 7, none⟩), .slice (some ⟨D.Bl, 0, none⟩) D.g.sorts.length D.g.sorts.length, .int .i64 (k : Int), .pointer (some ⟨D.Bl, 0 + k, none⟩), .bool true, .bool true, .bool true, .pointer (some ⟨D.T, 0, none⟩), .pointer (some ⟨D.T, 0, none⟩), .pointer (some ⟨D.T, 0 + 10, none⟩), .slice (some ⟨D.Bs, 0, none⟩) D.g.sorts.length D.cs, .int .i64 (k : Int), .pointer (some ⟨D.Bs, 0 + k, none⟩), .int .i64 v, .bool true, .bool true, .bool true, .pointer (some ⟨D.T, 0, none⟩), .pointer (some ⟨D.T, 0, none⟩), .pointer (some ⟨D.T, 0 + 10, none⟩), .slice (some ⟨D.Bs, 0, none⟩) D.g.sorts.length D.cs, .int .i64 (k : Int), .pointer (some ⟨D.Bs, 0 + k, none⟩), .int .i64 v, .int .i64 ((at_ + len : Nat) : Int), .int .i64 (at_ : Int), .int .i64 (len : Int), .bool true, .bool true, .bool true, .int .i64 ((at_ + len : Nat) : Int), .int .i64 (at_ : Int), .bool false, .bool false, .pointer (some ⟨D.T, 0, none⟩), .pointer (some ⟨D.T, 0, none⟩), .pointer (some ⟨D.T, 0 + 8, none⟩), .slice (some ⟨D.Bn, 0, none⟩) D.g.sorts.length D.g.sorts.length, .int .i64 (k : Int), .pointer (some ⟨D.Bn, 0 + k, none⟩), .bool true, .bool true, .bool true, .bool true, .int .i64 ((at_ + len : Nat) : Int), .int .i64 (at_ : Int), .bool true, .bool true, undef, undef, undef, undef, undef, undef, undef, undef, undef, undef, undef, .bool true, .bool true, .pointer (some ⟨D.T, 0, none⟩), .pointer (some ⟨D.T, 0 + 11, none⟩), undef]
            #[.pointer (some ⟨D.T, 0, none⟩), .agg #[.int .i64 (m : Int), .int .u8 b, .slice ka i kc], .int .i64 (at_ : Int), .string tx, .bool whole, undef, .pointer (some ⟨w.heap.size, 0, none⟩), undef, undef, undef, .int .i64 0, .int .i64 (k : Int), .int .i64 ((at_ + len : Nat) : Int), .int .i64 (i : Int), .pointer (some ⟨w.heap.size, 0, none⟩), .int .i64 (m : Int), .bool (decide ((m : Int) < 0)), undef, undef, .pointer (some ⟨D.T, 0, none⟩), .pointer (some ⟨D.T, 0, none⟩), .pointer (some ⟨D.T, 0, none⟩), .pointer (some ⟨D.T, 1, none⟩), .slice (some ⟨b1, o1, none⟩) D.g.prods.length D.g.pc, .pointer (some ⟨w.heap.size, 0, none⟩), .int .i64 (m : Int), .pointer (some ⟨b1, o1 + m * 7, none⟩), .pointer (some ⟨b1, o1 + m * 7, none⟩), .int .i64 (k : Int), .int .i64 (at_ : Int), .int .i64 (i : Int), .pointer (some ⟨w.heap.size, 2, none⟩), .slice ka i kc, .int .i64 (i : Int), .bool false, u35, u36, u37, u38, u39, u40, u41, u42, u43, u44, u45, u46, .pointer (some ⟨D.T, 0, none⟩), .pointer (some ⟨D.T, 0, none⟩), .pointer (some ⟨D.T, 0, none⟩), .pointer (some ⟨D.T, 0 + 11, none⟩), .bool true, .bool true, .pointer (some ⟨D.T, 0, none⟩), .pointer (some ⟨D.T, 0, none⟩), .pointer (some ⟨D.T, 0 + 7, none⟩), .slice (some ⟨D.Bl, 0, none⟩) D.g.sorts.length D.g.sorts.length, .int .i64 (k : Int), .pointer (some ⟨D.Bl, 0 + k, none⟩), .bool true, .bool true, .bool true, .pointer (some ⟨D.T, 0, none⟩), .pointer (some ⟨D.T, 0, none⟩), .pointer (some ⟨D.T, 0 + 10, none⟩), .slice (some ⟨D.Bs, 0, none⟩) D.g.sorts.length D.cs, .int .i64 (k : Int), .pointer (some ⟨D.Bs, 0 + k, none⟩), .int .i64 v, .bool true, .bool true, .bool true, .pointer (some ⟨D.T, 0, none⟩), .pointer (some ⟨D.T, 0, none⟩), .pointer (some ⟨D.T, 0 + 10, none⟩), .slice (some ⟨D.Bs, 0, none⟩) D.g.sorts.length D.cs, .int .i64 (k : Int), .pointer (some ⟨D.Bs, 0 + k, none⟩), .int .i64 v, .int .i64 ((at_ + len : Nat) : Int), .int .i64 (at_ : Int), .int .i64 (len : Int), .bool true, .bool true, .bool true, .int .i64 ((at_ + len : Nat) : Int), .int .i64 (at_ : Int), .bool false, .bool false, .pointer (some ⟨D.T, 0, none⟩), .pointer (some ⟨D.T, 0, none⟩), .pointer (some ⟨D.T, 0 + 8, none⟩), .slice (some ⟨D.Bn, 0, none⟩) D.g.sorts.length D.g.sorts.length, .int .i64 (k : Int), .pointer (some ⟨D.Bn, 0 + k, none⟩), .bool true, .bool true, .bool true, .bool true, .int .i64 ((at_ + len : Nat) : Int), .int .i64 (at_ : Int), .bool true, .bool true, undef, undef, undef, undef, undef, undef, undef, undef, undef, undef, undef, .bool true, .bool true, .pointer (some ⟨D.T, 0, none⟩), .pointer (some ⟨D.T, 0 + 11, none⟩), undef, undef, undef, undef, undef, undef, undef, undef, undef, undef, undef, undef, undef, undef, undef, undef, undef, undef, undef, undef, undef, undef, undef, undef, undef, undef, undef, undef, undef, undef, undef, undef, undef, undef, undef, undef, undef, undef, undef, undef, undef, undef, undef]
            (by kernel_rfl) (by kernel_rfl) (by kernel_rfl) (by kernel_rfl) rfl (by kernel_rfl) hN (fun W W' h hB => h.trans (hB.mono h.size)) (Below.refl _ wr).drew ?_ ?_
          · simp only [List.take_succ_cons, List.take_zero]
            refine Each.val 47 (.pointer (some ⟨D.T, 0, none⟩)) (by kernel_rfl) (by kernel_rfl) (by kernel_rfl) hN (fun _ _ _ => by kernel_rfl) ?_
            refine Each.val 48 (.pointer (some ⟨D.T, 0, none⟩)) (by kernel_rfl) (by kernel_rfl) (by kernel_rfl) hN (fun _ _ _ => by kernel_rfl) ?_
            refine Each.val 49 (.pointer (some ⟨D.T, 0, none⟩)) (by kernel_rfl) (by kernel_rfl) (by kernel_rfl) hN (fun _ _ _ => by kernel_rfl) ?_
            refine Each.val 50 (.pointer (some ⟨D.T, 0 + 11, none⟩)) (by kernel_rfl) (by kernel_rfl) (by kernel_rfl) hN (fun W hS _ => fa75_7 rfl (by kernel_rfl)) ?_
            refine Each.val 51 (.bool true) (by kernel_rfl) (by kernel_rfl) (by kernel_rfl) hN (fun W hS _ => ld4 rfl (by kernel_rfl) (HTW.out W hS).t11) ?_
            refine Each.val 52 (.bool true) (by kernel_rfl) (by kernel_rfl) (by kernel_rfl) hN (fun _ _ _ => by kernel_rfl) ?_
            refine Each.val 53 (.pointer (some ⟨D.T, 0, none⟩)) (by kernel_rfl) (by kernel_rfl) (by kernel_rfl) hN (fun _ _ _ => by kernel_rfl) ?_
            refine Each.val 54 (.pointer (some ⟨D.T, 0, none⟩)) (by kernel_rfl) (by kernel_rfl) (by kernel_rfl) hN (fun _ _ _ => by kernel_rfl) ?_
            refine Each.val 55 (.pointer (some ⟨D.T, 0 + 7, none⟩)) (by kernel_rfl) (by kernel_rfl) (by kernel_rfl) hN (fun W hS _ => fa75_3 rfl (by kernel_rfl)) ?_
            refine Each.val 56 (.slice (some ⟨D.Bl, 0, none⟩) D.g.sorts.length D.g.sorts.length) (by kernel_rfl) (by kernel_rfl) (by kernel_rfl) hN (fun W hS _ => ld31 rfl (by kernel_rfl) (HTW.out W hS).t7) ?_
            refine Each.val 57 (.int .i64 (k : Int)) (by kernel_rfl) (by kernel_rfl) (by kernel_rfl) hN (fun _ _ _ => by kernel_rfl) ?_
            refine Each.val 58 (.pointer (some ⟨D.Bl, 0 + k, none⟩)) (by kernel_rfl) (by kernel_rfl) (by kernel_rfl) hN (fun W hS _ => ix31 (c := D.g.sorts.length) rfl (by kernel_rfl) (by kernel_rfl) hkn rfl) ?_
            refine Each.val 59 (.bool true) (by kernel_rfl) (by kernel_rfl) (by kernel_rfl) hN (fun W hS _ => ld4 rfl (by kernel_rfl) (HTW.out W hS).lk) ?_
            refine Each.val 60 (.bool true) (by kernel_rfl) (by kernel_rfl) (by kernel_rfl) hN (fun _ _ _ => by kernel_rfl) ?_
            refine Each.val 61 (.bool true) (by kernel_rfl) (by kernel_rfl) (by kernel_rfl) hN (fun _ _ _ => by kernel_rfl) ?_
            refine Each.val 62 (.pointer (some ⟨D.T, 0, none⟩)) (by kernel_rfl) (by kernel_rfl) (by kernel_rfl) hN (fun _ _ _ => by kernel_rfl) ?_
            refine Each.val 63 (.pointer (some ⟨D.T, 0, none⟩)) (by kernel_rfl) (by kernel_rfl) (by kernel_rfl) hN (fun _ _ _ => by kernel_rfl) ?_
            refine Each.val 64 (.pointer (some ⟨D.T, 0 + 10, none⟩)) (by kernel_rfl) (by kernel_rfl) (by kernel_rfl) hN (fun W hS _ => fa75_6 rfl (by kernel_rfl)) ?_
            refine Each.val 65 (.slice (some ⟨D.Bs, 0, none⟩) D.g.sorts.length D.cs) (by kernel_rfl) (by kernel_rfl) (by kernel_rfl) hN (fun W hS _ => ld48 rfl (by kernel_rfl) (HTW.out W hS).t10) ?_
            refine Each.val 66 (.int .i64 (k : Int)) (by kernel_rfl) (by kernel_rfl) (by kernel_rfl) hN (fun _ _ _ => by kernel_rfl) ?_
            refine Each.val 67 (.pointer (some ⟨D.Bs, 0 + k, none⟩)) (by kernel_rfl) (by kernel_rfl) (by kernel_rfl) hN (fun W hS _ => ix48 (c := D.cs) rfl (by kernel_rfl) (by kernel_rfl) hkn rfl) ?_
            refine Each.val 68 (.int .i64 v) (by kernel_rfl) (by kernel_rfl) (by kernel_rfl) hN (fun W hS _ => ld3 rfl (by kernel_rfl) (HTW.out W hS).sk) ?_
            refine Each.val 69 (.bool true) (by kernel_rfl) (by kernel_rfl) (by kernel_rfl) hN (fun W hS _ => ex_geq (a := v) (b := 0) rfl (by kernel_rfl) (by kernel_rfl) (by simpa using hv0)) ?_
            refine Each.val 70 (.bool true) (by kernel_rfl) (by kernel_rfl) (by kernel_rfl) hN (fun _ _ _ => by kernel_rfl) ?_
            refine Each.val 71 (.bool true) (by kernel_rfl) (by kernel_rfl) (by kernel_rfl) hN (fun _ _ _ => by kernel_rfl) ?_
            refine Each.val 72 (.pointer (some ⟨D.T, 0, none⟩)) (by kernel_rfl) (by kernel_rfl) (by kernel_rfl) hN (fun _ _ _ => by kernel_rfl) ?_
            refine Each.val 73 (.pointer (some ⟨D.T, 0, none⟩)) (by kernel_rfl) (by kernel_rfl) (by kernel_rfl) hN (fun _ _ _ => by kernel_rfl) ?_
            refine Each.val 74 (.pointer (some ⟨D.T, 0 + 10, none⟩)) (by kernel_rfl) (by kernel_rfl) (by kernel_rfl) hN (fun W hS _ => fa75_6 rfl (by kernel_rfl)) ?_
            refine Each.val 75 (.slice (some ⟨D.Bs, 0, none⟩) D.g.sorts.length D.cs) (by kernel_rfl) (by kernel_rfl) (by kernel_rfl) hN (fun W hS _ => ld48 rfl (by kernel_rfl) (HTW.out W hS).t10) ?_
            refine Each.val 76 (.int .i64 (k : Int)) (by kernel_rfl) (by kernel_rfl) (by kernel_rfl) hN (fun _ _ _ => by kernel_rfl) ?_
            refine Each.val 77 (.pointer (some ⟨D.Bs, 0 + k, none⟩)) (by kernel_rfl) (by kernel_rfl) (by kernel_rfl) hN (fun W hS _ => ix48 (c := D.cs) rfl (by kernel_rfl) (by kernel_rfl) hkn rfl) ?_
            refine Each.val 78 (.int .i64 v) (by kernel_rfl) (by kernel_rfl) (by kernel_rfl) hN (fun W hS _ => ld3 rfl (by kernel_rfl) (HTW.out W hS).sk) ?_
            refine Each.val 79 (.int .i64 ((at_ + len : Nat) : Int)) (by kernel_rfl) (by kernel_rfl) (by kernel_rfl) hN (fun _ _ _ => by kernel_rfl) ?_
            refine Each.val 80 (.int .i64 (at_ : Int)) (by kernel_rfl) (by kernel_rfl) (by kernel_rfl) hN (fun _ _ _ => by kernel_rfl) ?_
            refine Each.val 81 (.int .i64 (len : Int)) (by kernel_rfl) (by kernel_rfl) (by kernel_rfl) hN (fun W hS _ => sb3 (a := at_) (b := len) rfl (by kernel_rfl) (by kernel_rfl) (by omega)) ?_
            refine Each.val 82 (.bool true) (by kernel_rfl) (by kernel_rfl) (by kernel_rfl) hN (fun W hS _ => ex_leq (a := v) (b := (len : Int)) rfl (by kernel_rfl) (by kernel_rfl) (by simpa using hv1)) ?_
            refine Each.val 83 (.bool true) (by kernel_rfl) (by kernel_rfl) (by kernel_rfl) hN (fun _ _ _ => by kernel_rfl) ?_
            refine Each.val 84 (.bool true) (by kernel_rfl) (by kernel_rfl) (by kernel_rfl) hN (fun _ _ _ => by kernel_rfl) ?_
            refine Each.val 85 (.int .i64 ((at_ + len : Nat) : Int)) (by kernel_rfl) (by kernel_rfl) (by kernel_rfl) hN (fun _ _ _ => by kernel_rfl) ?_
            refine Each.val 86 (.int .i64 (at_ : Int)) (by kernel_rfl) (by kernel_rfl) (by kernel_rfl) hN (fun _ _ _ => by kernel_rfl) ?_
            refine Each.val 87 (.bool false) (by kernel_rfl) (by kernel_rfl) (by kernel_rfl) hN (fun W hS _ => ex_gtr (a := ((at_ + len : Nat) : Int)) (b := (at_ : Int)) rfl (by kernel_rfl) (by kernel_rfl) (by simp; omega)) ?_
            refine Each.val 88 (.bool false) (by kernel_rfl) (by kernel_rfl) (by kernel_rfl) hN (fun _ _ _ => by kernel_rfl) ?_
            refine Each.val 89 (.pointer (some ⟨D.T, 0, none⟩)) (by kernel_rfl) (by kernel_rfl) (by kernel_rfl) hN (fun _ _ _ => by kernel_rfl) ?_
            refine Each.val 90 (.pointer (some ⟨D.T, 0, none⟩)) (by kernel_rfl) (by kernel_rfl) (by kernel_rfl) hN (fun _ _ _ => by kernel_rfl) ?_
            refine Each.val 91 (.pointer (some ⟨D.T, 0 + 8, none⟩)) (by kernel_rfl) (by kernel_rfl) (by kernel_rfl) hN (fun W hS _ => fa75_4 rfl (by kernel_rfl)) ?_
            refine Each.val 92 (.slice (some ⟨D.Bn, 0, none⟩) D.g.sorts.length D.g.sorts.length) (by kernel_rfl) (by kernel_rfl) (by kernel_rfl) hN (fun W hS _ => ld31 rfl (by kernel_rfl) (HTW.out W hS).t8) ?_
            refine Each.val 93 (.int .i64 (k : Int)) (by kernel_rfl) (by kernel_rfl) (by kernel_rfl) hN (fun _ _ _ => by kernel_rfl) ?_
            refine Each.val 94 (.pointer (some ⟨D.Bn, 0 + k, none⟩)) (by kernel_rfl) (by kernel_rfl) (by kernel_rfl) hN (fun W hS _ => ix31 (c := D.g.sorts.length) rfl (by kernel_rfl) (by kernel_rfl) hkn rfl) ?_
            refine Each.val 95 (.bool true) (by kernel_rfl) (by kernel_rfl) (by kernel_rfl) hN (fun W hS _ => ld4 rfl (by kernel_rfl) ((HTW.out W hS).nk hl0)) ?_
            refine Each.val 96 (.bool true) (by kernel_rfl) (by kernel_rfl) (by kernel_rfl) hN (fun _ _ _ => by kernel_rfl) ?_
            refine Each.val 97 (.bool true) (by kernel_rfl) (by kernel_rfl) (by kernel_rfl) hN (fun _ _ _ => by kernel_rfl) ?_
            refine Each.val 98 (.bool true) (by kernel_rfl) (by kernel_rfl) (by kernel_rfl) hN (fun _ _ _ => by kernel_rfl) ?_
            refine Each.val 99 (.int .i64 ((at_ + len : Nat) : Int)) (by kernel_rfl) (by kernel_rfl) (by kernel_rfl) hN (fun _ _ _ => by kernel_rfl) ?_
            refine Each.val 100 (.int .i64 (at_ : Int)) (by kernel_rfl) (by kernel_rfl) (by kernel_rfl) hN (fun _ _ _ => by kernel_rfl) ?_
            refine Each.val 101 (.bool true) (by kernel_rfl) (by kernel_rfl) (by kernel_rfl) hN (fun W hS _ => ex_eql3 (a := ((at_ + len : Nat) : Int)) (b := (at_ : Int)) rfl (by kernel_rfl) (by kernel_rfl) (by simp; omega)) ?_
            refine Each.val 102 (.bool true) (by kernel_rfl) (by kernel_rfl) (by kernel_rfl) hN (fun _ _ _ => by kernel_rfl) ?_
            refine Each.off 103 (by kernel_rfl) (by kernel_rfl) (by kernel_rfl) ?_
            refine Each.off 104 (by kernel_rfl) (by kernel_rfl) (by kernel_rfl) ?_
            refine Each.off 105 (by kernel_rfl) (by kernel_rfl) (by kernel_rfl) ?_
            refine Each.off 106 (by kernel_rfl) (by kernel_rfl) (by kernel_rfl) ?_
            refine Each.off 107 (by kernel_rfl) (by kernel_rfl) (by kernel_rfl) ?_
            refine Each.off 108 (by kernel_rfl) (by kernel_rfl) (by kernel_rfl) ?_
            refine Each.off 109 (by kernel_rfl) (by kernel_rfl) (by kernel_rfl) ?_
            refine Each.off 110 (by kernel_rfl) (by kernel_rfl) (by kernel_rfl) ?_
            refine Each.off 111 (by kernel_rfl) (by kernel_rfl) (by kernel_rfl) ?_
            refine Each.off 112 (by kernel_rfl) (by kernel_rfl) (by kernel_rfl) ?_
            refine Each.off 113 (by kernel_rfl) (by kernel_rfl) (by kernel_rfl) ?_
            refine Each.val 114 (.bool true) (by kernel_rfl) (by kernel_rfl) (by kernel_rfl) hN (fun _ _ _ => by kernel_rfl) ?_
            refine Each.val 115 (.bool true) (by kernel_rfl) (by kernel_rfl) (by kernel_rfl) hN (fun _ _ _ => by kernel_rfl) ?_
            refine Each.val 116 (.pointer (some ⟨D.T, 0, none⟩)) (by kernel_rfl) (by kernel_rfl) (by kernel_rfl) hN (fun _ _ _ => by kernel_rfl) ?_
            refine Each.val 117 (.pointer (some ⟨D.T, 0 + 11, none⟩)) (by kernel_rfl) (by kernel_rfl) (by kernel_rfl) hN (fun W hS _ => fa75_7 rfl (by kernel_rfl)) ?_
            exact trivial
          · intro W hS
            have hTC := HTW.out W hS
            have hl9 := (HK.out.1.below hS).t.lt
            have hf9 := (HK.out.1.below hS).t.frozen (0 + 11)
            refine ⟨_, rfl, by kernel_rfl, by kernel_rfl, rfl, W.setCell ⟨D.T, 0 + 11, none⟩ (.bool true), st4 (b := true) rfl (by kernel_rfl) (by kernel_rfl) hTC.t11 hf9 hl9, ?_⟩
            have HZ : Hid (TW D w0 (W.setCell ⟨D.T, 0 + 11, none⟩ (.bool true)) ∧ w.grownBy (W.setCell ⟨D.T, 0 + 11, none⟩ (.bool true)) (some D.T)) := Lib.hid ⟨(HK.out.1.below hS).again, grown_trans HK.out.2.2 (grown_trans (grown_below hS _) (grown_set W D.T (0 + 11) _))⟩
            clear hTC hl9 hf9 hS hN
            go_wp2
            go_meet
            case rel => exact ⟨rfl, HZ⟩

        · have hlt1 : at_ < tx.size := by omega
          obtain ⟨c0, uu, hcu⟩ : ∃ c0 uu, ub (kids.flatMap (yieldL d)) = c0 :: uu := by
            cases hq : ub (kids.flatMap (yieldL d)) with
            | nil =>
              have := congrArg List.length hq
              rw [ub_length, ← HTxt.out.2.1] at this
              exact absurd this hl0
            | cons a r => exact ⟨a, r, rfl⟩
          obtain ⟨s, hs1, hs2⟩ := HQ5.out c0 uu hcu
          have hby := byte_at (tx := tx) (k := at_) (c := c0) (by rw [HTxt.out.1, hcu]; rfl) hlt1
          obtain ⟨c, hc⟩ : ∃ c, c = c0.toNat := ⟨_, rfl⟩
          have hc256 : c < 256 := by rw [hc]; exact c0.toNat_lt
          have HC : Hid ((tx[at_]'hlt1).toNat = c) := Lib.hid (by rw [hby, hc])
          have HFk : Hid (∀ W, Below wr.heap.size wr W → W.cell? ⟨D.Bf, 0 + k * 4, none⟩ = some (.int .u64 (wdI s 0)) ∧ W.cell? ⟨D.Bf, 0 + k * 4 + 1, none⟩ = some (.int .u64 (wdI s 1)) ∧ W.cell? ⟨D.Bf, 0 + k * 4 + 2, none⟩ = some (.int .u64 (wdI s 2)) ∧ W.cell? ⟨D.Bf, 0 + k * 4 + 3, none⟩ = some (.int .u64 (wdI s 3))) := Lib.hid (fun W hS => set_at (HK.out.1.below hS).f (HHm.out.2.2.1 k s hs1))
          have HHas := Lib.hid (fun W => has39_any s c hc256 W)
          rw [← hc] at hs2
          rw [hs2] at HHas
          unfold vset at HHas
          clear hs1 hs2 hby hc hcu HTold HTold2 HQ5
          refine wp_region_vals_sink (N := fun W W' => Below W.heap.size W W') (S := fun W => Below wr.heap.size wr W) 71
            [.pointer (some ⟨D.T, 0, none⟩), .pointer (some ⟨D.T, 0, none⟩), .pointer (some ⟨D.T, 0, none⟩), .pointer (some ⟨D.T, 0 + 11, none⟩), .bool true, .bool true, .pointer (some ⟨D.T, 0, none⟩), .pointer (some ⟨D.T, 0, none⟩), .pointer (some ⟨D.T, 0 + 7, none⟩), .slice (some ⟨D.Bl, 0, none⟩) D.g.sorts.length D.g.sorts.length, .int .i64 (k : Int), .pointer (some ⟨D.Bl, 0 + k, none⟩), .bool true, .bool true, .bool true, .pointer (some ⟨D.T, 0, none⟩), .pointer (some ⟨D.T, 0, none⟩), .pointer (some ⟨D.T, 0 + 10, none⟩), .slice (some ⟨D.Bs, 0, none⟩) D.g.sorts.length D.cs, .int .i64 (k : Int), .pointer (some ⟨D.Bs, 0 + k, none⟩), .int .i64 v, .bool true, .bool true, .bool true, .pointer (some ⟨D.T, 0, none⟩), .pointer (some ⟨D.T, 0, none⟩), .pointer (some ⟨D.T, 0 + 10, none⟩), .slice (some ⟨D.Bs, 0, none⟩) D.g.sorts.length D.cs, .int .i64 (k : Int), .pointer (some ⟨D.Bs, 0 + k, none⟩), .int .i64 v, .int .i64 ((at_ + len : Nat) : Int), .int .i64 (at_ : Int), .int .i64 (len : Int), .bool true, .bool true, .bool true, .int .i64 ((at_ + len : Nat) : Int), .int .i64 (at_ : Int), .bool true, .bool true, undef, undef, undef, undef, undef, undef, undef, .bool true, .bool true, .bool true, .int .i64 ((at_ + len : Nat) : Int), .int .i64 (at_ : Int), .bool false, .bool false, .pointer (some ⟨D.T, 0, none⟩), .pointer (some ⟨D.T, 0, none⟩), .pointer (some ⟨D.T, 0 + 5, none⟩), .slice (some ⟨D.Bf, 0, none⟩) D.g.sorts.length D.cf, .int .i64 (k : Int), .pointer (some ⟨D.Bf, 0 + k * 4, none⟩), .agg #[.int .u64 (wdI s 0), .int .u64 (wdI s 1), .int .u64 (wdI s 2), .int .u64 (wdI s 3)], .string tx, .int .i64 (at_ : Int), .int .u8 (c : Nat), .bool true, .bool true, .bool true, .pointer (some ⟨D.T, 0, none⟩), .pointer (some ⟨D.T, 0 + 11, none⟩), undef]
            #[.pointer (some ⟨D.T, 0, none⟩), .agg #[.int .i64 (m : Int), .int .u8 b, .slice ka i kc], .int .i64 (at_ : Int), .string tx, .bool whole, undef, .pointer (some ⟨w.heap.size, 0, none⟩), undef, undef, undef, .int .i64 0, .int .i64 (k : Int), .int .i64 ((at_ + len : Nat) : Int), .int .i64 (i : Int), .pointer (some ⟨w.heap.size, 0, none⟩), .int .i64 (m : Int), .bool (decide ((m : Int) < 0)), undef, undef, .pointer (some ⟨D.T, 0, none⟩), .pointer (some ⟨D.T, 0, none⟩), .pointer (some ⟨D.T, 0, none⟩), .pointer (some ⟨D.T, 1, none⟩), .slice (some ⟨b1, o1, none⟩) D.g.prods.length D.g.pc, .pointer (some ⟨w.heap.size, 0, none⟩), .int .i64 (m : Int), .pointer (some ⟨b1, o1 + m * 7, none⟩), .pointer (some ⟨b1, o1 + m * 7, none⟩), .int .i64 (k : Int), .int .i64 (at_ : Int), .int .i64 (i : Int), .pointer (some ⟨w.heap.size, 2, none⟩), .slice ka i kc, .int .i64 (i : Int), .bool false, u35, u36, u37, u38, u39, u40, u41, u42, u43, u44, u45, u46, .pointer (some ⟨D.T, 0, none⟩), .pointer (some ⟨D.T, 0, none⟩), .pointer (some ⟨D.T, 0, none⟩), .pointer (some ⟨D.T, 0 + 11, none⟩), .bool true, .bool true, .pointer (some ⟨D.T, 0, none⟩), .pointer (some ⟨D.T, 0, none⟩), .pointer (some ⟨D.T, 0 + 7, none⟩), .slice (some ⟨D.Bl, 0, none⟩) D.g.sorts.length D.g.sorts.length, .int .i64 (k : Int), .pointer (some ⟨D.Bl, 0 + k, none⟩), .bool true, .bool true, .bool true, .pointer (some ⟨D.T, 0, none⟩), .pointer (some ⟨D.T, 0, none⟩), .pointer (some ⟨D.T, 0 + 10, none⟩), .slice (some ⟨D.Bs, 0, none⟩) D.g.sorts.length D.cs, .int .i64 (k : Int), .pointer (some ⟨D.Bs, 0 + k, none⟩), .int .i64 v, .bool true, .bool true, .bool true, .pointer (some ⟨D.T, 0, none⟩), .pointer (some ⟨D.T, 0, none⟩), .pointer (some ⟨D.T, 0 + 10, none⟩), .slice (some ⟨D.Bs, 0, none⟩) D.g.sorts.length D.cs, .int .i64 (k : Int), .pointer (some ⟨D.Bs, 0 + k, none⟩), .int .i64 v, .int .i64 ((at_ + len : Nat) : Int), .int .i64 (at_ : Int), .int .i64 (len : Int), .bool true, .bool true, .bool true, .int .i64 ((at_ + len : Nat) : Int), .int .i64 (at_ : Int), .bool true, .bool true, undef, undef, undef, undef, undef, undef, undef, .bool true, .bool true, .bool true, .int .i64 ((at_ + len : Nat) : Int), .int .i64 (at_ : Int), .bool false, .bool false, .pointer (some ⟨D.T, 0, none⟩), .pointer (some ⟨D.T, 0, none⟩), .pointer (some ⟨D.T, 0 + 5, none⟩), .slice (some ⟨D.Bf, 0, none⟩) D.g.sorts.length D.cf, .int .i64 (k : Int), .pointer (some ⟨D.Bf, 0 + k * 4, none⟩), .agg #[.int .u64 (wdI s 0), .int .u64 (wdI s 1), .int .u64 (wdI s 2), .int .u64 (wdI s 3)], .string tx, .int .i64 (at_ : Int), .int .u8 (c : Nat), .bool true, .bool true, .bool true, .pointer (some ⟨D.T, 0, none⟩), .pointer (some ⟨D.T, 0 + 11, none⟩), undef, undef, undef, undef, undef, undef, undef, undef, undef, undef, undef, undef, undef, undef, undef, undef, undef, undef, undef, undef, undef, undef, undef, undef, undef, undef, undef, undef, undef, undef, undef, undef, undef, undef, undef, undef, undef, undef, undef, undef, undef, undef, undef]
            (by kernel_rfl) (by kernel_rfl) (by kernel_rfl) (by kernel_rfl) rfl (by kernel_rfl) hN (fun W W' h hB => h.trans (hB.mono h.size)) (Below.refl _ wr).drew ?_ ?_
          · simp only [List.take_succ_cons, List.take_zero]
            refine Each.val 47 (.pointer (some ⟨D.T, 0, none⟩)) (by kernel_rfl) (by kernel_rfl) (by kernel_rfl) hN (fun _ _ _ => by kernel_rfl) ?_
            refine Each.val 48 (.pointer (some ⟨D.T, 0, none⟩)) (by kernel_rfl) (by kernel_rfl) (by kernel_rfl) hN (fun _ _ _ => by kernel_rfl) ?_
            refine Each.val 49 (.pointer (some ⟨D.T, 0, none⟩)) (by kernel_rfl) (by kernel_rfl) (by kernel_rfl) hN (fun _ _ _ => by kernel_rfl) ?_
            refine Each.val 50 (.pointer (some ⟨D.T, 0 + 11, none⟩)) (by kernel_rfl) (by kernel_rfl) (by kernel_rfl) hN (fun W hS _ => fa75_7 rfl (by kernel_rfl)) ?_
            refine Each.val 51 (.bool true) (by kernel_rfl) (by kernel_rfl) (by kernel_rfl) hN (fun W hS _ => ld4 rfl (by kernel_rfl) (HTW.out W hS).t11) ?_
            refine Each.val 52 (.bool true) (by kernel_rfl) (by kernel_rfl) (by kernel_rfl) hN (fun _ _ _ => by kernel_rfl) ?_
            refine Each.val 53 (.pointer (some ⟨D.T, 0, none⟩)) (by kernel_rfl) (by kernel_rfl) (by kernel_rfl) hN (fun _ _ _ => by kernel_rfl) ?_
            refine Each.val 54 (.pointer (some ⟨D.T, 0, none⟩)) (by kernel_rfl) (by kernel_rfl) (by kernel_rfl) hN (fun _ _ _ => by kernel_rfl) ?_
            refine Each.val 55 (.pointer (some ⟨D.T, 0 + 7, none⟩)) (by kernel_rfl) (by kernel_rfl) (by kernel_rfl) hN (fun W hS _ => fa75_3 rfl (by kernel_rfl)) ?_
            refine Each.val 56 (.slice (some ⟨D.Bl, 0, none⟩) D.g.sorts.length D.g.sorts.length) (by kernel_rfl) (by kernel_rfl) (by kernel_rfl) hN (fun W hS _ => ld31 rfl (by kernel_rfl) (HTW.out W hS).t7) ?_
            refine Each.val 57 (.int .i64 (k : Int)) (by kernel_rfl) (by kernel_rfl) (by kernel_rfl) hN (fun _ _ _ => by kernel_rfl) ?_
            refine Each.val 58 (.pointer (some ⟨D.Bl, 0 + k, none⟩)) (by kernel_rfl) (by kernel_rfl) (by kernel_rfl) hN (fun W hS _ => ix31 (c := D.g.sorts.length) rfl (by kernel_rfl) (by kernel_rfl) hkn rfl) ?_
            refine Each.val 59 (.bool true) (by kernel_rfl) (by kernel_rfl) (by kernel_rfl) hN (fun W hS _ => ld4 rfl (by kernel_rfl) (HTW.out W hS).lk) ?_
            refine Each.val 60 (.bool true) (by kernel_rfl) (by kernel_rfl) (by kernel_rfl) hN (fun _ _ _ => by kernel_rfl) ?_
            refine Each.val 61 (.bool true) (by kernel_rfl) (by kernel_rfl) (by kernel_rfl) hN (fun _ _ _ => by kernel_rfl) ?_
            refine Each.val 62 (.pointer (some ⟨D.T, 0, none⟩)) (by kernel_rfl) (by kernel_rfl) (by kernel_rfl) hN (fun _ _ _ => by kernel_rfl) ?_
            refine Each.val 63 (.pointer (some ⟨D.T, 0, none⟩)) (by kernel_rfl) (by kernel_rfl) (by kernel_rfl) hN (fun _ _ _ => by kernel_rfl) ?_
            refine Each.val 64 (.pointer (some ⟨D.T, 0 + 10, none⟩)) (by kernel_rfl) (by kernel_rfl) (by kernel_rfl) hN (fun W hS _ => fa75_6 rfl (by kernel_rfl)) ?_
            refine Each.val 65 (.slice (some ⟨D.Bs, 0, none⟩) D.g.sorts.length D.cs) (by kernel_rfl) (by kernel_rfl) (by kernel_rfl) hN (fun W hS _ => ld48 rfl (by kernel_rfl) (HTW.out W hS).t10) ?_
            refine Each.val 66 (.int .i64 (k : Int)) (by kernel_rfl) (by kernel_rfl) (by kernel_rfl) hN (fun _ _ _ => by kernel_rfl) ?_
            refine Each.val 67 (.pointer (some ⟨D.Bs, 0 + k, none⟩)) (by kernel_rfl) (by kernel_rfl) (by kernel_rfl) hN (fun W hS _ => ix48 (c := D.cs) rfl (by kernel_rfl) (by kernel_rfl) hkn rfl) ?_
            refine Each.val 68 (.int .i64 v) (by kernel_rfl) (by kernel_rfl) (by kernel_rfl) hN (fun W hS _ => ld3 rfl (by kernel_rfl) (HTW.out W hS).sk) ?_
            refine Each.val 69 (.bool true) (by kernel_rfl) (by kernel_rfl) (by kernel_rfl) hN (fun W hS _ => ex_geq (a := v) (b := 0) rfl (by kernel_rfl) (by kernel_rfl) (by simpa using hv0)) ?_
            refine Each.val 70 (.bool true) (by kernel_rfl) (by kernel_rfl) (by kernel_rfl) hN (fun _ _ _ => by kernel_rfl) ?_
            refine Each.val 71 (.bool true) (by kernel_rfl) (by kernel_rfl) (by kernel_rfl) hN (fun _ _ _ => by kernel_rfl) ?_
            refine Each.val 72 (.pointer (some ⟨D.T, 0, none⟩)) (by kernel_rfl) (by kernel_rfl) (by kernel_rfl) hN (fun _ _ _ => by kernel_rfl) ?_
            refine Each.val 73 (.pointer (some ⟨D.T, 0, none⟩)) (by kernel_rfl) (by kernel_rfl) (by kernel_rfl) hN (fun _ _ _ => by kernel_rfl) ?_
            refine Each.val 74 (.pointer (some ⟨D.T, 0 + 10, none⟩)) (by kernel_rfl) (by kernel_rfl) (by kernel_rfl) hN (fun W hS _ => fa75_6 rfl (by kernel_rfl)) ?_
            refine Each.val 75 (.slice (some ⟨D.Bs, 0, none⟩) D.g.sorts.length D.cs) (by kernel_rfl) (by kernel_rfl) (by kernel_rfl) hN (fun W hS _ => ld48 rfl (by kernel_rfl) (HTW.out W hS).t10) ?_
            refine Each.val 76 (.int .i64 (k : Int)) (by kernel_rfl) (by kernel_rfl) (by kernel_rfl) hN (fun _ _ _ => by kernel_rfl) ?_
            refine Each.val 77 (.pointer (some ⟨D.Bs, 0 + k, none⟩)) (by kernel_rfl) (by kernel_rfl) (by kernel_rfl) hN (fun W hS _ => ix48 (c := D.cs) rfl (by kernel_rfl) (by kernel_rfl) hkn rfl) ?_
            refine Each.val 78 (.int .i64 v) (by kernel_rfl) (by kernel_rfl) (by kernel_rfl) hN (fun W hS _ => ld3 rfl (by kernel_rfl) (HTW.out W hS).sk) ?_
            refine Each.val 79 (.int .i64 ((at_ + len : Nat) : Int)) (by kernel_rfl) (by kernel_rfl) (by kernel_rfl) hN (fun _ _ _ => by kernel_rfl) ?_
            refine Each.val 80 (.int .i64 (at_ : Int)) (by kernel_rfl) (by kernel_rfl) (by kernel_rfl) hN (fun _ _ _ => by kernel_rfl) ?_
            refine Each.val 81 (.int .i64 (len : Int)) (by kernel_rfl) (by kernel_rfl) (by kernel_rfl) hN (fun W hS _ => sb3 (a := at_) (b := len) rfl (by kernel_rfl) (by kernel_rfl) (by omega)) ?_
            refine Each.val 82 (.bool true) (by kernel_rfl) (by kernel_rfl) (by kernel_rfl) hN (fun W hS _ => ex_leq (a := v) (b := (len : Int)) rfl (by kernel_rfl) (by kernel_rfl) (by simpa using hv1)) ?_
            refine Each.val 83 (.bool true) (by kernel_rfl) (by kernel_rfl) (by kernel_rfl) hN (fun _ _ _ => by kernel_rfl) ?_
            refine Each.val 84 (.bool true) (by kernel_rfl) (by kernel_rfl) (by kernel_rfl) hN (fun _ _ _ => by kernel_rfl) ?_
            refine Each.val 85 (.int .i64 ((at_ + len : Nat) : Int)) (by kernel_rfl) (by kernel_rfl) (by kernel_rfl) hN (fun _ _ _ => by kernel_rfl) ?_
            refine Each.val 86 (.int .i64 (at_ : Int)) (by kernel_rfl) (by kernel_rfl) (by kernel_rfl) hN (fun _ _ _ => by kernel_rfl) ?_
            refine Each.val 87 (.bool true) (by kernel_rfl) (by kernel_rfl) (by kernel_rfl) hN (fun W hS _ => ex_gtr (a := ((at_ + len : Nat) : Int)) (b := (at_ : Int)) rfl (by kernel_rfl) (by kernel_rfl) (by simp; omega)) ?_
            refine Each.val 88 (.bool true) (by kernel_rfl) (by kernel_rfl) (by kernel_rfl) hN (fun _ _ _ => by kernel_rfl) ?_
            refine Each.off 89 (by kernel_rfl) (by kernel_rfl) (by kernel_rfl) ?_
            refine Each.off 90 (by kernel_rfl) (by kernel_rfl) (by kernel_rfl) ?_
            refine Each.off 91 (by kernel_rfl) (by kernel_rfl) (by kernel_rfl) ?_
            refine Each.off 92 (by kernel_rfl) (by kernel_rfl) (by kernel_rfl) ?_
            refine Each.off 93 (by kernel_rfl) (by kernel_rfl) (by kernel_rfl) ?_
            refine Each.off 94 (by kernel_rfl) (by kernel_rfl) (by kernel_rfl) ?_
            refine Each.off 95 (by kernel_rfl) (by kernel_rfl) (by kernel_rfl) ?_
            refine Each.val 96 (.bool true) (by kernel_rfl) (by kernel_rfl) (by kernel_rfl) hN (fun _ _ _ => by kernel_rfl) ?_
            refine Each.val 97 (.bool true) (by kernel_rfl) (by kernel_rfl) (by kernel_rfl) hN (fun _ _ _ => by kernel_rfl) ?_
            refine Each.val 98 (.bool true) (by kernel_rfl) (by kernel_rfl) (by kernel_rfl) hN (fun _ _ _ => by kernel_rfl) ?_
            refine Each.val 99 (.int .i64 ((at_ + len : Nat) : Int)) (by kernel_rfl) (by kernel_rfl) (by kernel_rfl) hN (fun _ _ _ => by kernel_rfl) ?_
            refine Each.val 100 (.int .i64 (at_ : Int)) (by kernel_rfl) (by kernel_rfl) (by kernel_rfl) hN (fun _ _ _ => by kernel_rfl) ?_
            refine Each.val 101 (.bool false) (by kernel_rfl) (by kernel_rfl) (by kernel_rfl) hN (fun W hS _ => ex_eql3 (a := ((at_ + len : Nat) : Int)) (b := (at_ : Int)) rfl (by kernel_rfl) (by kernel_rfl) (by simp; omega)) ?_
            refine Each.val 102 (.bool false) (by kernel_rfl) (by kernel_rfl) (by kernel_rfl) hN (fun _ _ _ => by kernel_rfl) ?_
            refine Each.val 103 (.pointer (some ⟨D.T, 0, none⟩)) (by kernel_rfl) (by kernel_rfl) (by kernel_rfl) hN (fun _ _ _ => by kernel_rfl) ?_
            refine Each.val 104 (.pointer (some ⟨D.T, 0, none⟩)) (by kernel_rfl) (by kernel_rfl) (by kernel_rfl) hN (fun _ _ _ => by kernel_rfl) ?_
            refine Each.val 105 (.pointer (some ⟨D.T, 0 + 5, none⟩)) (by kernel_rfl) (by kernel_rfl) (by kernel_rfl) hN (fun W hS _ => fa75_1 rfl (by kernel_rfl)) ?_
            refine Each.val 106 (.slice (some ⟨D.Bf, 0, none⟩) D.g.sorts.length D.cf) (by kernel_rfl) (by kernel_rfl) (by kernel_rfl) hN (fun W hS _ => ld38 rfl (by kernel_rfl) (HTW.out W hS).t5) ?_
            refine Each.val 107 (.int .i64 (k : Int)) (by kernel_rfl) (by kernel_rfl) (by kernel_rfl) hN (fun _ _ _ => by kernel_rfl) ?_
            refine Each.val 108 (.pointer (some ⟨D.Bf, 0 + k * 4, none⟩)) (by kernel_rfl) (by kernel_rfl) (by kernel_rfl) hN (fun W hS _ => ix38 (c := D.cf) rfl (by kernel_rfl) (by kernel_rfl) hkn rfl) ?_
            refine Each.val 109 (.agg #[.int .u64 (wdI s 0), .int .u64 (wdI s 1), .int .u64 (wdI s 2), .int .u64 (wdI s 3)]) (by kernel_rfl) (by kernel_rfl) (by kernel_rfl) hN (fun W hS _ => ld47s rfl (by kernel_rfl) (HFk.out W hS)) ?_
            refine Each.val 110 (.string tx) (by kernel_rfl) (by kernel_rfl) (by kernel_rfl) hN (fun _ _ _ => by kernel_rfl) ?_
            refine Each.val 111 (.int .i64 (at_ : Int)) (by kernel_rfl) (by kernel_rfl) (by kernel_rfl) hN (fun _ _ _ => by kernel_rfl) ?_
            refine Each.val 112 (.int .u8 (c : Nat)) (by kernel_rfl) (by kernel_rfl) (by kernel_rfl) hN (fun W hS _ => (ix9 rfl (by kernel_rfl) (by kernel_rfl) hlt1).trans (by rw [HC.out])) ?_
            refine Each.call 113 (.bool true) 39 #[.agg #[.int .u64 (wdI s 0), .int .u64 (wdI s 1), .int .u64 (wdI s 2), .int .u64 (wdI s 3)], .int .u8 (c : Nat)] (by kernel_rfl) (by kernel_rfl) (by kernel_rfl) (fun _ _ => by kernel_rfl) (fun W hS => HHas.out W) ?_
            refine Each.val 114 (.bool true) (by kernel_rfl) (by kernel_rfl) (by kernel_rfl) hN (fun _ _ _ => by kernel_rfl) ?_
            refine Each.val 115 (.bool true) (by kernel_rfl) (by kernel_rfl) (by kernel_rfl) hN (fun _ _ _ => by kernel_rfl) ?_
            refine Each.val 116 (.pointer (some ⟨D.T, 0, none⟩)) (by kernel_rfl) (by kernel_rfl) (by kernel_rfl) hN (fun _ _ _ => by kernel_rfl) ?_
            refine Each.val 117 (.pointer (some ⟨D.T, 0 + 11, none⟩)) (by kernel_rfl) (by kernel_rfl) (by kernel_rfl) hN (fun W hS _ => fa75_7 rfl (by kernel_rfl)) ?_
            exact trivial
          · intro W hS
            have hTC := HTW.out W hS
            have hl9 := (HK.out.1.below hS).t.lt
            have hf9 := (HK.out.1.below hS).t.frozen (0 + 11)
            refine ⟨_, rfl, by kernel_rfl, by kernel_rfl, rfl, W.setCell ⟨D.T, 0 + 11, none⟩ (.bool true), st4 (b := true) rfl (by kernel_rfl) (by kernel_rfl) hTC.t11 hf9 hl9, ?_⟩
            have HZ : Hid (TW D w0 (W.setCell ⟨D.T, 0 + 11, none⟩ (.bool true)) ∧ w.grownBy (W.setCell ⟨D.T, 0 + 11, none⟩ (.bool true)) (some D.T)) := Lib.hid ⟨(HK.out.1.below hS).again, grown_trans HK.out.2.2 (grown_trans (grown_below hS _) (grown_set W D.T (0 + 11) _))⟩
            clear hTC hl9 hf9 hS hN
            go_wp2
            go_meet
            case rel => exact ⟨rfl, HZ⟩

      obtain ⟨rfl, HK2⟩ := hcut
      clear HTW HK HTold HQ5
      cases whole with
      | false =>
        have HZ := Lib.hid (HPost.out _ HK2.out.2 HK2.out.1.t)
        go_wp2
        exact HZ.out
      | true =>
        have hcx := HTxt.out.2.2 rfl
        have hctx := HHm.out.2.1.ctx hkn hcx
        have HTW : Hid (∀ W, Below wc.heap.size wc W → TC D k len v W) := Lib.hid (fun W hS => (HK2.out.1.below hS).tc HTold2.out.1 HTold2.out.2.1 HTold2.out.2.2)
        obtain ⟨hctx1, hctx2⟩ := hctx
        have HCt := Lib.hid (And.intro hctx1 hctx2)
        clear hcx hctx1 hctx2 HTold2
        have hN : ∀ W : World, Below W.heap.size W W := fun W => Below.refl _ W
        go_wp2
        by_cases hr0 : rest = []
        · have heq : (((at_ + len : Nat) : Int) == (tx.size : Int)) = true := by
            rw [hr0, List.length_nil] at hend
            rw [beq_iff_eq]; omega
          have HEk : Hid (∀ W, Below wc.heap.size wc W → W.cell? ⟨D.Be, 0 + k, none⟩ = some (.bool true)) := Lib.hid (fun W hS => by
            rw [Nat.zero_add, (HK2.out.1.below hS).e.cell k]
            exact HHm.out.2.2.2.2 k true (HCt.out.1 hr0))
          clear HCt hr0
          refine wp_region_vals_sink (N := fun W W' => Below W.heap.size W W') (S := fun W => Below wc.heap.size wc W) 41
            [.pointer (some ⟨D.T, 0, none⟩), .pointer (some ⟨D.T, 0, none⟩), .pointer (some ⟨D.T, 0, none⟩), .pointer (some ⟨D.T, 0 + 11, none⟩), .bool true, .bool true, .int .i64 ((at_ + len : Nat) : Int), .string tx, .int .i64 (tx.size : Nat), .bool true, .bool true, .pointer (some ⟨D.T, 0, none⟩), .pointer (some ⟨D.T, 0, none⟩), .pointer (some ⟨D.T, 0 + 9, none⟩), .slice (some ⟨D.Be, 0, none⟩) D.g.sorts.length D.ce, .int .i64 (k : Int), .pointer (some ⟨D.Be, 0 + k, none⟩), .bool true, .bool true, .bool true, undef, undef, undef, undef, undef, undef, undef, undef, undef, undef, undef, undef, undef, undef, undef, undef, undef, .bool true, .bool true, .pointer (some ⟨D.T, 0, none⟩), .pointer (some ⟨D.T, 0 + 11, none⟩), undef]
            #[.pointer (some ⟨D.T, 0, none⟩), .agg #[.int .i64 (m : Int), .int .u8 b, .slice ka i kc], .int .i64 (at_ : Int), .string tx, .bool true, undef, .pointer (some ⟨w.heap.size, 0, none⟩), undef, undef, undef, .int .i64 0, .int .i64 (k : Int), .int .i64 ((at_ + len : Nat) : Int), .int .i64 (i : Int), .pointer (some ⟨w.heap.size, 0, none⟩), .int .i64 (m : Int), .bool (decide ((m : Int) < 0)), undef, undef, .pointer (some ⟨D.T, 0, none⟩), .pointer (some ⟨D.T, 0, none⟩), .pointer (some ⟨D.T, 0, none⟩), .pointer (some ⟨D.T, 1, none⟩), .slice (some ⟨b1, o1, none⟩) D.g.prods.length D.g.pc, .pointer (some ⟨w.heap.size, 0, none⟩), .int .i64 (m : Int), .pointer (some ⟨b1, o1 + m * 7, none⟩), .pointer (some ⟨b1, o1 + m * 7, none⟩), .int .i64 (k : Int), .int .i64 (at_ : Int), .int .i64 (i : Int), .pointer (some ⟨w.heap.size, 2, none⟩), .slice ka i kc, .int .i64 (i : Int), .bool false, u35, u36, u37, u38, u39, u40, u41, u42, u43, u44, u45, u46, u47, u48, u49, u50, u51, u52, u53, u54, u55, u56, u57, u58, u59, u60, u61, u62, u63, u64, u65, u66, u67, u68, u69, u70, u71, u72, u73, u74, u75, u76, u77, u78, u79, u80, u81, u82, u83, u84, u85, u86, u87, u88, u89, u90, u91, u92, u93, u94, u95, u96, u97, u98, u99, u100, u101, u102, u103, u104, u105, u106, u107, u108, u109, u110, u111, u112, u113, u114, u115, u116, u117, .bool true, .pointer (some ⟨D.T, 0, none⟩), .pointer (some ⟨D.T, 0, none⟩), .pointer (some ⟨D.T, 0, none⟩), .pointer (some ⟨D.T, 0 + 11, none⟩), .bool true, .bool true, .int .i64 ((at_ + len : Nat) : Int), .string tx, .int .i64 (tx.size : Nat), .bool true, .bool true, .pointer (some ⟨D.T, 0, none⟩), .pointer (some ⟨D.T, 0, none⟩), .pointer (some ⟨D.T, 0 + 9, none⟩), .slice (some ⟨D.Be, 0, none⟩) D.g.sorts.length D.ce, .int .i64 (k : Int), .pointer (some ⟨D.Be, 0 + k, none⟩), .bool true, .bool true, .bool true, undef, undef, undef, undef, undef, undef, undef, undef, undef, undef, undef, undef, undef, undef, undef, undef, undef, .bool true, .bool true, .pointer (some ⟨D.T, 0, none⟩), .pointer (some ⟨D.T, 0 + 11, none⟩), undef]
            (by kernel_rfl) (by kernel_rfl) (by kernel_rfl) (by kernel_rfl) rfl (by kernel_rfl) hN (fun W W' h hB => h.trans (hB.mono h.size)) (Below.refl _ wc).drew ?_ ?_
          · simp only [List.take_succ_cons, List.take_zero]
            refine Each.val 119 (.pointer (some ⟨D.T, 0, none⟩)) (by kernel_rfl) (by kernel_rfl) (by kernel_rfl) hN (fun _ _ _ => by kernel_rfl) ?_
            refine Each.val 120 (.pointer (some ⟨D.T, 0, none⟩)) (by kernel_rfl) (by kernel_rfl) (by kernel_rfl) hN (fun _ _ _ => by kernel_rfl) ?_
            refine Each.val 121 (.pointer (some ⟨D.T, 0, none⟩)) (by kernel_rfl) (by kernel_rfl) (by kernel_rfl) hN (fun _ _ _ => by kernel_rfl) ?_
            refine Each.val 122 (.pointer (some ⟨D.T, 0 + 11, none⟩)) (by kernel_rfl) (by kernel_rfl) (by kernel_rfl) hN (fun W hS _ => fa75_7 rfl (by kernel_rfl)) ?_
            refine Each.val 123 (.bool true) (by kernel_rfl) (by kernel_rfl) (by kernel_rfl) hN (fun W hS _ => ld4 rfl (by kernel_rfl) (HTW.out W hS).t11) ?_
            refine Each.val 124 (.bool true) (by kernel_rfl) (by kernel_rfl) (by kernel_rfl) hN (fun _ _ _ => by kernel_rfl) ?_
            refine Each.val 125 (.int .i64 ((at_ + len : Nat) : Int)) (by kernel_rfl) (by kernel_rfl) (by kernel_rfl) hN (fun _ _ _ => by kernel_rfl) ?_
            refine Each.val 126 (.string tx) (by kernel_rfl) (by kernel_rfl) (by kernel_rfl) hN (fun _ _ _ => by kernel_rfl) ?_
            refine Each.val 127 (.int .i64 (tx.size : Nat)) (by kernel_rfl) (by kernel_rfl) (by kernel_rfl) hN (fun W hS _ => len9 rfl (by kernel_rfl)) ?_
            refine Each.val 128 (.bool true) (by kernel_rfl) (by kernel_rfl) (by kernel_rfl) hN (fun W hS _ => ex_eql3 (a := ((at_ + len : Nat) : Int)) (b := (tx.size : Int)) rfl (by kernel_rfl) (by kernel_rfl) heq) ?_
            refine Each.val 129 (.bool true) (by kernel_rfl) (by kernel_rfl) (by kernel_rfl) hN (fun _ _ _ => by kernel_rfl) ?_
            refine Each.val 130 (.pointer (some ⟨D.T, 0, none⟩)) (by kernel_rfl) (by kernel_rfl) (by kernel_rfl) hN (fun _ _ _ => by kernel_rfl) ?_
            refine Each.val 131 (.pointer (some ⟨D.T, 0, none⟩)) (by kernel_rfl) (by kernel_rfl) (by kernel_rfl) hN (fun _ _ _ => by kernel_rfl) ?_
            refine Each.val 132 (.pointer (some ⟨D.T, 0 + 9, none⟩)) (by kernel_rfl) (by kernel_rfl) (by kernel_rfl) hN (fun W hS _ => fa75_5 rfl (by kernel_rfl)) ?_
            refine Each.val 133 (.slice (some ⟨D.Be, 0, none⟩) D.g.sorts.length D.ce) (by kernel_rfl) (by kernel_rfl) (by kernel_rfl) hN (fun W hS _ => ld31 rfl (by kernel_rfl) (HTW.out W hS).t9) ?_
            refine Each.val 134 (.int .i64 (k : Int)) (by kernel_rfl) (by kernel_rfl) (by kernel_rfl) hN (fun _ _ _ => by kernel_rfl) ?_
            refine Each.val 135 (.pointer (some ⟨D.Be, 0 + k, none⟩)) (by kernel_rfl) (by kernel_rfl) (by kernel_rfl) hN (fun W hS _ => ix31 (c := D.ce) rfl (by kernel_rfl) (by kernel_rfl) hkn rfl) ?_
            refine Each.val 136 (.bool true) (by kernel_rfl) (by kernel_rfl) (by kernel_rfl) hN (fun W hS _ => ld4 rfl (by kernel_rfl) (HEk.out W hS)) ?_
            refine Each.val 137 (.bool true) (by kernel_rfl) (by kernel_rfl) (by kernel_rfl) hN (fun _ _ _ => by kernel_rfl) ?_
            refine Each.val 138 (.bool true) (by kernel_rfl) (by kernel_rfl) (by kernel_rfl) hN (fun _ _ _ => by kernel_rfl) ?_
            refine Each.off 139 (by kernel_rfl) (by kernel_rfl) (by kernel_rfl) ?_
            refine Each.off 140 (by kernel_rfl) (by kernel_rfl) (by kernel_rfl) ?_
            refine Each.off 141 (by kernel_rfl) (by kernel_rfl) (by kernel_rfl) ?_
            refine Each.off 142 (by kernel_rfl) (by kernel_rfl) (by kernel_rfl) ?_
            refine Each.off 143 (by kernel_rfl) (by kernel_rfl) (by kernel_rfl) ?_
            refine Each.off 144 (by kernel_rfl) (by kernel_rfl) (by kernel_rfl) ?_
            refine Each.off 145 (by kernel_rfl) (by kernel_rfl) (by kernel_rfl) ?_
            refine Each.off 146 (by kernel_rfl) (by kernel_rfl) (by kernel_rfl) ?_
            refine Each.off 147 (by kernel_rfl) (by kernel_rfl) (by kernel_rfl) ?_
            refine Each.off 148 (by kernel_rfl) (by kernel_rfl) (by kernel_rfl) ?_
            refine Each.off 149 (by kernel_rfl) (by kernel_rfl) (by kernel_rfl) ?_
            refine Each.off 150 (by kernel_rfl) (by kernel_rfl) (by kernel_rfl) ?_
            refine Each.off 151 (by kernel_rfl) (by kernel_rfl) (by kernel_rfl) ?_
            refine Each.off 152 (by kernel_rfl) (by kernel_rfl) (by kernel_rfl) ?_
            refine Each.off 153 (by kernel_rfl) (by kernel_rfl) (by kernel_rfl) ?_
            refine Each.off 154 (by kernel_rfl) (by kernel_rfl) (by kernel_rfl) ?_
            refine Each.off 155 (by kernel_rfl) (by kernel_rfl) (by kernel_rfl) ?_
            refine Each.val 156 (.bool true) (by kernel_rfl) (by kernel_rfl) (by kernel_rfl) hN (fun _ _ _ => by kernel_rfl) ?_
            refine Each.val 157 (.bool true) (by kernel_rfl) (by kernel_rfl) (by kernel_rfl) hN (fun _ _ _ => by kernel_rfl) ?_
            refine Each.val 158 (.pointer (some ⟨D.T, 0, none⟩)) (by kernel_rfl) (by kernel_rfl) (by kernel_rfl) hN (fun _ _ _ => by kernel_rfl) ?_
            refine Each.val 159 (.pointer (some ⟨D.T, 0 + 11, none⟩)) (by kernel_rfl) (by kernel_rfl) (by kernel_rfl) hN (fun W hS _ => fa75_7 rfl (by kernel_rfl)) ?_
            exact trivial
          · intro W hS
            have hTC := HTW.out W hS
            have hl9 := (HK2.out.1.below hS).t.lt
            have hf9 := (HK2.out.1.below hS).t.frozen (0 + 11)
            refine ⟨_, rfl, by kernel_rfl, by kernel_rfl, rfl, W.setCell ⟨D.T, 0 + 11, none⟩ (.bool true), st4 (b := true) rfl (by kernel_rfl) (by kernel_rfl) hTC.t11 hf9 hl9, ?_⟩
            have HZ : Hid (PP (.returned (.int .i64 ((at_ + len : Nat) : Int))) (W.setCell ⟨D.T, 0 + 11, none⟩ (.bool true))) := Lib.hid (HPost.out _ (grown_trans HK2.out.2 (grown_trans (grown_below hS _) (grown_set W D.T (0 + 11) _))) (HK2.out.1.below hS).again.t)
            clear hTC hl9 hf9 hS hN
            go_wp2
            exact HZ.out

        · obtain ⟨c0, uu, hcu⟩ : ∃ c0 uu, rest = c0 :: uu := by
            cases hq : rest with
            | nil => exact absurd hq hr0
            | cons a r => exact ⟨a, r, rfl⟩
          have hlt2 : at_ + len < tx.size := by rw [hcu, List.length_cons] at hend; omega
          have heq : (((at_ + len : Nat) : Int) == (tx.size : Int)) = false := by
            rw [beq_eq_false_iff_ne]; omega
          obtain ⟨s2, hs1, hs2⟩ := HCt.out.2 c0 uu hcu
          have hby := byte_at (tx := tx) (k := at_ + len) (c := c0) (by rw [← List.drop_drop, HTxt.out.1, HTxt.out.2.1, ← ub_length (kids.flatMap (yieldL d)), List.drop_left, hcu]) hlt2
          obtain ⟨c2, hc⟩ : ∃ c2, c2 = c0.toNat := ⟨_, rfl⟩
          have hc256 : c2 < 256 := by rw [hc]; exact c0.toNat_lt
          have HC2 : Hid ((tx[at_ + len]'hlt2).toNat = c2) := Lib.hid (by rw [hby, hc])
          have HOk : Hid (∀ W, Below wc.heap.size wc W → W.cell? ⟨D.Bo, 0 + k * 4, none⟩ = some (.int .u64 (wdI s2 0)) ∧ W.cell? ⟨D.Bo, 0 + k * 4 + 1, none⟩ = some (.int .u64 (wdI s2 1)) ∧ W.cell? ⟨D.Bo, 0 + k * 4 + 2, none⟩ = some (.int .u64 (wdI s2 2)) ∧ W.cell? ⟨D.Bo, 0 + k * 4 + 3, none⟩ = some (.int .u64 (wdI s2 3))) := Lib.hid (fun W hS => set_at (HK2.out.1.below hS).fo (HHm.out.2.2.2.1 k s2 hs1))
          have HHas2 := Lib.hid (fun W => has39_any s2 c2 hc256 W)
          rw [← hc] at hs2
          rw [hs2] at HHas2
          unfold vset at HHas2
          clear hs1 hs2 hby hc hcu hr0 HCt
          refine wp_region_vals_sink (N := fun W W' => Below W.heap.size W W') (S := fun W => Below wc.heap.size wc W) 41
            [.pointer (some ⟨D.T, 0, none⟩), .pointer (some ⟨D.T, 0, none⟩), .pointer (some ⟨D.T, 0, none⟩), .pointer (some ⟨D.T, 0 + 11, none⟩), .bool true, .bool true, .int .i64 ((at_ + len : Nat) : Int), .string tx, .int .i64 (tx.size : Nat), .bool false, .bool false, undef, undef, undef, undef, undef, undef, undef, .bool false, .bool false, .int .i64 ((at_ + len : Nat) : Int), .string tx, .int .i64 (tx.size : Nat), .bool true, .bool true, .pointer (some ⟨D.T, 0, none⟩), .pointer (some ⟨D.T, 0, none⟩), .pointer (some ⟨D.T, 0 + 6, none⟩), .slice (some ⟨D.Bo, 0, none⟩) D.g.sorts.length D.co, .int .i64 (k : Int), .pointer (some ⟨D.Bo, 0 + k * 4, none⟩), .agg #[.int .u64 (wdI s2 0), .int .u64 (wdI s2 1), .int .u64 (wdI s2 2), .int .u64 (wdI s2 3)], .string tx, .int .i64 ((at_ + len : Nat) : Int), .int .u8 (c2 : Nat), .bool true, .bool true, .bool true, .bool true, .pointer (some ⟨D.T, 0, none⟩), .pointer (some ⟨D.T, 0 + 11, none⟩), undef]
            #[.pointer (some ⟨D.T, 0, none⟩), .agg #[.int .i64 (m : Int), .int .u8 b, .slice ka i kc], .int .i64 (at_ : Int), .string tx, .bool true, undef, .pointer (some ⟨w.heap.size, 0, none⟩), undef, undef, undef, .int .i64 0, .int .i64 (k : Int), .int .i64 ((at_ + len : Nat) : Int), .int .i64 (i : Int), .pointer (some ⟨w.heap.size, 0, none⟩), .int .i64 (m : Int), .bool (decide ((m : Int) < 0)), undef, undef, .pointer (some ⟨D.T, 0, none⟩), .pointer (some ⟨D.T, 0, none⟩), .pointer (some ⟨D.T, 0, none⟩), .pointer (some ⟨D.T, 1, none⟩), .slice (some ⟨b1, o1, none⟩) D.g.prods.length D.g.pc, .pointer (some ⟨w.heap.size, 0, none⟩), .int .i64 (m : Int), .pointer (some ⟨b1, o1 + m * 7, none⟩), .pointer (some ⟨b1, o1 + m * 7, none⟩), .int .i64 (k : Int), .int .i64 (at_ : Int), .int .i64 (i : Int), .pointer (some ⟨w.heap.size, 2, none⟩), .slice ka i kc, .int .i64 (i : Int), .bool false, u35, u36, u37, u38, u39, u40, u41, u42, u43, u44, u45, u46, u47, u48, u49, u50, u51, u52, u53, u54, u55, u56, u57, u58, u59, u60, u61, u62, u63, u64, u65, u66, u67, u68, u69, u70, u71, u72, u73, u74, u75, u76, u77, u78, u79, u80, u81, u82, u83, u84, u85, u86, u87, u88, u89, u90, u91, u92, u93, u94, u95, u96, u97, u98, u99, u100, u101, u102, u103, u104, u105, u106, u107, u108, u109, u110, u111, u112, u113, u114, u115, u116, u117, .bool true, .pointer (some ⟨D.T, 0, none⟩), .pointer (some ⟨D.T, 0, none⟩), .pointer (some ⟨D.T, 0, none⟩), .pointer (some ⟨D.T, 0 + 11, none⟩), .bool true, .bool true, .int .i64 ((at_ + len : Nat) : Int), .string tx, .int .i64 (tx.size : Nat), .bool false, .bool false, undef, undef, undef, undef, undef, undef, undef, .bool false, .bool false, .int .i64 ((at_ + len : Nat) : Int), .string tx, .int .i64 (tx.size : Nat), .bool true, .bool true, .pointer (some ⟨D.T, 0, none⟩), .pointer (some ⟨D.T, 0, none⟩), .pointer (some ⟨D.T, 0 + 6, none⟩), .slice (some ⟨D.Bo, 0, none⟩) D.g.sorts.length D.co, .int .i64 (k : Int), .pointer (some ⟨D.Bo, 0 + k * 4, none⟩), .agg #[.int .u64 (wdI s2 0), .int .u64 (wdI s2 1), .int .u64 (wdI s2 2), .int .u64 (wdI s2 3)], .string tx, .int .i64 ((at_ + len : Nat) : Int), .int .u8 (c2 : Nat), .bool true, .bool true, .bool true, .bool true, .pointer (some ⟨D.T, 0, none⟩), .pointer (some ⟨D.T, 0 + 11, none⟩), undef]
            (by kernel_rfl) (by kernel_rfl) (by kernel_rfl) (by kernel_rfl) rfl (by kernel_rfl) hN (fun W W' h hB => h.trans (hB.mono h.size)) (Below.refl _ wc).drew ?_ ?_
          · simp only [List.take_succ_cons, List.take_zero]
            refine Each.val 119 (.pointer (some ⟨D.T, 0, none⟩)) (by kernel_rfl) (by kernel_rfl) (by kernel_rfl) hN (fun _ _ _ => by kernel_rfl) ?_
            refine Each.val 120 (.pointer (some ⟨D.T, 0, none⟩)) (by kernel_rfl) (by kernel_rfl) (by kernel_rfl) hN (fun _ _ _ => by kernel_rfl) ?_
            refine Each.val 121 (.pointer (some ⟨D.T, 0, none⟩)) (by kernel_rfl) (by kernel_rfl) (by kernel_rfl) hN (fun _ _ _ => by kernel_rfl) ?_
            refine Each.val 122 (.pointer (some ⟨D.T, 0 + 11, none⟩)) (by kernel_rfl) (by kernel_rfl) (by kernel_rfl) hN (fun W hS _ => fa75_7 rfl (by kernel_rfl)) ?_
            refine Each.val 123 (.bool true) (by kernel_rfl) (by kernel_rfl) (by kernel_rfl) hN (fun W hS _ => ld4 rfl (by kernel_rfl) (HTW.out W hS).t11) ?_
            refine Each.val 124 (.bool true) (by kernel_rfl) (by kernel_rfl) (by kernel_rfl) hN (fun _ _ _ => by kernel_rfl) ?_
            refine Each.val 125 (.int .i64 ((at_ + len : Nat) : Int)) (by kernel_rfl) (by kernel_rfl) (by kernel_rfl) hN (fun _ _ _ => by kernel_rfl) ?_
            refine Each.val 126 (.string tx) (by kernel_rfl) (by kernel_rfl) (by kernel_rfl) hN (fun _ _ _ => by kernel_rfl) ?_
            refine Each.val 127 (.int .i64 (tx.size : Nat)) (by kernel_rfl) (by kernel_rfl) (by kernel_rfl) hN (fun W hS _ => len9 rfl (by kernel_rfl)) ?_
            refine Each.val 128 (.bool false) (by kernel_rfl) (by kernel_rfl) (by kernel_rfl) hN (fun W hS _ => ex_eql3 (a := ((at_ + len : Nat) : Int)) (b := (tx.size : Int)) rfl (by kernel_rfl) (by kernel_rfl) heq) ?_
            refine Each.val 129 (.bool false) (by kernel_rfl) (by kernel_rfl) (by kernel_rfl) hN (fun _ _ _ => by kernel_rfl) ?_
            refine Each.off 130 (by kernel_rfl) (by kernel_rfl) (by kernel_rfl) ?_
            refine Each.off 131 (by kernel_rfl) (by kernel_rfl) (by kernel_rfl) ?_
            refine Each.off 132 (by kernel_rfl) (by kernel_rfl) (by kernel_rfl) ?_
            refine Each.off 133 (by kernel_rfl) (by kernel_rfl) (by kernel_rfl) ?_
            refine Each.off 134 (by kernel_rfl) (by kernel_rfl) (by kernel_rfl) ?_
            refine Each.off 135 (by kernel_rfl) (by kernel_rfl) (by kernel_rfl) ?_
            refine Each.off 136 (by kernel_rfl) (by kernel_rfl) (by kernel_rfl) ?_
            refine Each.val 137 (.bool false) (by kernel_rfl) (by kernel_rfl) (by kernel_rfl) hN (fun _ _ _ => by kernel_rfl) ?_
            refine Each.val 138 (.bool false) (by kernel_rfl) (by kernel_rfl) (by kernel_rfl) hN (fun _ _ _ => by kernel_rfl) ?_
            refine Each.val 139 (.int .i64 ((at_ + len : Nat) : Int)) (by kernel_rfl) (by kernel_rfl) (by kernel_rfl) hN (fun _ _ _ => by kernel_rfl) ?_
            refine Each.val 140 (.string tx) (by kernel_rfl) (by kernel_rfl) (by kernel_rfl) hN (fun _ _ _ => by kernel_rfl) ?_
            refine Each.val 141 (.int .i64 (tx.size : Nat)) (by kernel_rfl) (by kernel_rfl) (by kernel_rfl) hN (fun W hS _ => len9 rfl (by kernel_rfl)) ?_
            refine Each.val 142 (.bool true) (by kernel_rfl) (by kernel_rfl) (by kernel_rfl) hN (fun W hS _ => ex_lss (a := ((at_ + len : Nat) : Int)) (b := (tx.size : Int)) rfl (by kernel_rfl) (by kernel_rfl) (decide_eq_true (by omega))) ?_
            refine Each.val 143 (.bool true) (by kernel_rfl) (by kernel_rfl) (by kernel_rfl) hN (fun _ _ _ => by kernel_rfl) ?_
            refine Each.val 144 (.pointer (some ⟨D.T, 0, none⟩)) (by kernel_rfl) (by kernel_rfl) (by kernel_rfl) hN (fun _ _ _ => by kernel_rfl) ?_
            refine Each.val 145 (.pointer (some ⟨D.T, 0, none⟩)) (by kernel_rfl) (by kernel_rfl) (by kernel_rfl) hN (fun _ _ _ => by kernel_rfl) ?_
            refine Each.val 146 (.pointer (some ⟨D.T, 0 + 6, none⟩)) (by kernel_rfl) (by kernel_rfl) (by kernel_rfl) hN (fun W hS _ => fa75_2 rfl (by kernel_rfl)) ?_
            refine Each.val 147 (.slice (some ⟨D.Bo, 0, none⟩) D.g.sorts.length D.co) (by kernel_rfl) (by kernel_rfl) (by kernel_rfl) hN (fun W hS _ => ld38 rfl (by kernel_rfl) (HTW.out W hS).t6) ?_
            refine Each.val 148 (.int .i64 (k : Int)) (by kernel_rfl) (by kernel_rfl) (by kernel_rfl) hN (fun _ _ _ => by kernel_rfl) ?_
            refine Each.val 149 (.pointer (some ⟨D.Bo, 0 + k * 4, none⟩)) (by kernel_rfl) (by kernel_rfl) (by kernel_rfl) hN (fun W hS _ => ix38 (c := D.co) rfl (by kernel_rfl) (by kernel_rfl) hkn rfl) ?_
            refine Each.val 150 (.agg #[.int .u64 (wdI s2 0), .int .u64 (wdI s2 1), .int .u64 (wdI s2 2), .int .u64 (wdI s2 3)]) (by kernel_rfl) (by kernel_rfl) (by kernel_rfl) hN (fun W hS _ => ld47s rfl (by kernel_rfl) (HOk.out W hS)) ?_
            refine Each.val 151 (.string tx) (by kernel_rfl) (by kernel_rfl) (by kernel_rfl) hN (fun _ _ _ => by kernel_rfl) ?_
            refine Each.val 152 (.int .i64 ((at_ + len : Nat) : Int)) (by kernel_rfl) (by kernel_rfl) (by kernel_rfl) hN (fun _ _ _ => by kernel_rfl) ?_
            refine Each.val 153 (.int .u8 (c2 : Nat)) (by kernel_rfl) (by kernel_rfl) (by kernel_rfl) hN (fun W hS _ => (ix9 rfl (by kernel_rfl) (by kernel_rfl) hlt2).trans (by rw [HC2.out])) ?_
            refine Each.call 154 (.bool true) 39 #[.agg #[.int .u64 (wdI s2 0), .int .u64 (wdI s2 1), .int .u64 (wdI s2 2), .int .u64 (wdI s2 3)], .int .u8 (c2 : Nat)] (by kernel_rfl) (by kernel_rfl) (by kernel_rfl) (fun _ _ => by kernel_rfl) (fun W hS => HHas2.out W) ?_
            refine Each.val 155 (.bool true) (by kernel_rfl) (by kernel_rfl) (by kernel_rfl) hN (fun _ _ _ => by kernel_rfl) ?_
            refine Each.val 156 (.bool true) (by kernel_rfl) (by kernel_rfl) (by kernel_rfl) hN (fun _ _ _ => by kernel_rfl) ?_
            refine Each.val 157 (.bool true) (by kernel_rfl) (by kernel_rfl) (by kernel_rfl) hN (fun _ _ _ => by kernel_rfl) ?_
            refine Each.val 158 (.pointer (some ⟨D.T, 0, none⟩)) (by kernel_rfl) (by kernel_rfl) (by kernel_rfl) hN (fun _ _ _ => by kernel_rfl) ?_
            refine Each.val 159 (.pointer (some ⟨D.T, 0 + 11, none⟩)) (by kernel_rfl) (by kernel_rfl) (by kernel_rfl) hN (fun W hS _ => fa75_7 rfl (by kernel_rfl)) ?_
            exact trivial
          · intro W hS
            have hTC := HTW.out W hS
            have hl9 := (HK2.out.1.below hS).t.lt
            have hf9 := (HK2.out.1.below hS).t.frozen (0 + 11)
            refine ⟨_, rfl, by kernel_rfl, by kernel_rfl, rfl, W.setCell ⟨D.T, 0 + 11, none⟩ (.bool true), st4 (b := true) rfl (by kernel_rfl) (by kernel_rfl) hTC.t11 hf9 hl9, ?_⟩
            have HZ : Hid (PP (.returned (.int .i64 ((at_ + len : Nat) : Int))) (W.setCell ⟨D.T, 0 + 11, none⟩ (.bool true))) := Lib.hid (HPost.out _ (grown_trans HK2.out.2 (grown_trans (grown_below hS _) (grown_set W D.T (0 + 11) _))) (HK2.out.1.below hS).again.t)
            clear hTC hl9 hf9 hS hN
            go_wp2
            exact HZ.out
theorem goes_any (D : TD) (hm : MayB D.g) (hs : MaySet D.g) (hT : ToldL D.g D.F D.FO D.L D.N D.E D.S) (hat1 : ∀ (k : Nat) (s : BS), D.F[k]? = some s → SetAt D.csF (k * 4) s) (hat2 : ∀ (k : Nat) (s : BS), D.FO[k]? = some s → SetAt D.csO (k * 4) s) (hat3 : ∀ (k : Nat) (s : Bool), D.E[k]? = some s → D.csE[k]? = some (.bool s))
    (w0 : World) (hg : GIn w0 D.g) (tx : ByteArray) (hsz : tx.size ≤ 1048576) : ∀ (d : Nat) (t : TreeM) (at_ : Nat) (whole : Bool) (rest : List UInt8) (w : World), TW D w0 w → TreeIn w0 t → GoesH D.g d t tx.data.toList at_ whole rest → Calls Tryz.prog 37 #[.pointer (some ⟨D.T, 0, none⟩), treeV t, .int .i64 at_, .string tx, .bool whole] w (GoesPost D (at_ + (yieldL d t).length) w) := by
  intro d
  induction d with
  | zero => intro t at_ whole rest w _ _ h; have := h.nest; unfold nestB at this; cases this
  | succ d ih =>
    rintro ⟨p, b, ka, kc, kids⟩ at_ whole rest w hw hin h
    by_cases hp : p < 0
    · have hle := h.le
      have : tx.data.toList.length = tx.size := by rw [Array.length_toList]; rfl
      exact goes_leaf D w0 tx hsz d p b ka kc kids hp at_ (by omega) whole w hw
    · obtain ⟨m, rfl⟩ : ∃ m : Nat, p = m := ⟨p.toNat, by omega⟩
      exact goes_node D hm hs hT hat1 hat2 hat3 w0 hg tx hsz d ih m b ka kc kids at_ whole rest w hw hin h
end Go.Proofs.YtodnlcbnbkkanaaGreatDoor
end
