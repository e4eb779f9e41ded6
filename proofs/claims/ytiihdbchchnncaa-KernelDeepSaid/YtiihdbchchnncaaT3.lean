import Derived.Deep.RegionHeld2
import Derived.Test.YtiihdbchchnncaaC7
import Derived.Test.YtiihdbchchnncaaT2
namespace Go.Proofs.Ytiihdbchchnncaa
open Go Go.RowKit Go.Vals

theorem ex_neq5 {w : World} {o : Oper} {ρ : Operand → Value} {x y : Operand} {a b : Int} {r : Bool} (ho : o.op = .binOp .neq 5 x y 5) (hx : ρ x = .int .u8 a) (hy : ρ y = .int .u8 b) (h : (a == b) = !r) : (execOp ρ o).run Try.prog w = .ok (.value (.bool r)) w := by
  unfold execOp; rw [ho]; simp only [hx, hy]
  have h2 : (a != b) = r := by simp [bne, h]
  go_simp
/-- Is a tree one of the grammar? -/
def treeB (g : GramM) : Nat → TreeM → Bool
  | 0, _ => false
  | d + 1, .node p b _ _ kids => numB p g.prods.length && b == 0 && (match g.prods[p.toNat]? with
    | none => false
    | some x => !(x.role == 11) && kids.length == x.right.length && (kids.zip x.right).all fun q => ofTB g (treeB g d) q.2 q.1)
theorem treeB_num {g : GramM} {d : Nat} {k : TreeM} (h : treeB g d k = true) : ∃ m : Nat, prodOf k = m ∧ m < g.prods.length := by
  cases d with
  | zero => unfold treeB at h; cases h
  | succ d =>
    obtain ⟨p, b, ka, kc, kids⟩ := k
    unfold treeB at h
    simp only [Bool.and_eq_true] at h
    obtain ⟨m, h1, h2⟩ := numB_nat h.1.1
    exact ⟨m, h1, h2⟩

set_option maxRecDepth 100000 in
set_option maxHeartbeats 4000000 in
theorem isTree_any (g : GramM) (hright : ∀ x, x ∈ g.prods → x.right.length ≤ 1048576) (hprods : g.prods.length ≤ 1048576) (d : Nat) : ∀ (t : TreeM) (Bg : Nat) (w : World), Blk w Bg 27 (gramC g) → GIn w g → TreeIn w t → TFit d t → nestB d t = true →
    Calls Try.prog 50 #[.pointer (some ⟨Bg, 0, none⟩), treeV t] w fun e w' => e = .returned (.bool (treeB g d t)) ∧ Below w.heap.size w w' := by
  induction d with
  | zero => intro t Bg w _ _ _ _ h; unfold nestB at h; cases h
  | succ d ih =>
  intro t Bg w hbg hg ht hfit hnest
  obtain ⟨p, b, ka, kc, kids⟩ := t
  rw [tree_in] at ht
  obtain ⟨hlen, ⟨n, rfl, hn⟩, hkf⟩ := hfit
  have HNe := Lib.hid (List.all_eq_true.1 (show kids.all (nestB d) = true from hnest))
  have HKf := Lib.hid hkf
  have HIh := Lib.hid ih
  have HT : Hid (treeB g (d + 1) (.node p (n : Int) ka kc kids) = (numB p g.prods.length && ((n : Int) == 0) && (match g.prods[p.toNat]? with
    | none => false
    | some x => !(x.role == 11) && kids.length == x.right.length && (kids.zip x.right).all fun q => ofTB g (treeB g d) q.2 q.1))) := Lib.hid (by rw [treeB])
  obtain ⟨W0, hW0⟩ : ∃ W0, W0 = w.alloc (.cells #[.int .i64 p, .int .u8 (n : Nat), .slice ka kids.length kc] 51) := ⟨_, rfl⟩
  have hB1 : Below w.heap.size w W0 := by rw [hW0]; exact (Below.refl _ _).alloc (Nat.le_refl _) _
  have hb1 : Blk W0 w.heap.size 51 #[.int .i64 p, .int .u8 (n : Nat), .slice ka kids.length kc] := by rw [hW0]; exact Blk.new w 51 _
  have HB := Lib.hid hB1
  have Hb1 := Lib.hid hb1
  have lg := hbg.lt
  have HK : Hid (∀ W, Below W0.heap.size W0 W → W.cell? ⟨w.heap.size, 0, none⟩ = some (.int .i64 p) ∧ W.cell? ⟨w.heap.size, 1, none⟩ = some (.int .u8 (n : Nat)) ∧ W.cell? ⟨Bg, 1, none⟩ = some (.slice g.pa g.prods.length g.pc)) := Lib.hid (fun W hW =>
    ⟨(hb1.below hW hb1.lt).cell 0, (hb1.below hW hb1.lt).cell 1, (hbg.below (hB1.trans (hW.mono hB1.size)) hbg.lt).gram.2.1⟩)
  have HBg := Lib.hid hbg
  have HG := Lib.hid hg
  have HTr := Lib.hid ht
  have HRi := Lib.hid hright
  have HN := Lib.hid (fun W => (num_any p (g.prods.length : Nat) W).mono (R' := fun e w' => e = .returned (.bool (numB p (g.prods.length : Nat))) ∧ Below W.heap.size W w') (by rintro e w' ⟨h1, rfl⟩; exact ⟨h1, Below.refl _ _⟩))
  have hN : ∀ W : World, Below W.heap.size W W := fun W => Below.refl _ W
  clear hbg hg ht hkf hnest ih hB1 hb1 hright
  generalize treeB g (d + 1) _ = q at *
  unfold treeV treeC
  cases i1 : numB p (g.prods.length : Nat) with
  | false =>
    have HR3 : Hid (q = false) := Lib.hid (by rw [HT.out, i1]; rfl)
    rw [i1] at HN
    clear HT i1 HNe HKf HIh HBg HG HTr HRi Hb1
    go_enter Try.func50, Try.ntmps50
    go_wp2_with fail
    rw [← hW0]
    clear hW0
    refine wp_region_vals0 (N := fun W W' => Below W.heap.size W W') (S := fun W => Below W0.heap.size W0 W)
      [.pointer (some ⟨w.heap.size, 0, none⟩), .int .i64 p, .pointer (some ⟨Bg, 0, none⟩), .pointer (some ⟨Bg, 0, none⟩), .pointer (some ⟨Bg, 1, none⟩), .slice g.pa g.prods.length g.pc, .int .i64 (g.prods.length : Nat), .bool false, .bool true, .bool true, undef, undef, undef, .bool true]
      #[.pointer (some ⟨Bg, 0, none⟩), .agg #[.int .i64 p, .int .u8 (n : Nat), .slice ka kids.length kc], undef, .pointer (some ⟨w.heap.size, 0, none⟩), .bool false, undef, undef, undef, .pointer (some ⟨w.heap.size, 0, none⟩), .int .i64 p, .pointer (some ⟨Bg, 0, none⟩), .pointer (some ⟨Bg, 0, none⟩), .pointer (some ⟨Bg, 1, none⟩), .slice g.pa g.prods.length g.pc, .int .i64 (g.prods.length : Nat), .bool false, .bool true, .bool true, undef, undef, undef, .bool true, undef, undef, undef, undef, undef, undef, undef, undef, undef, undef, undef, undef, undef, undef, undef, undef, undef, undef, undef, undef, undef, undef, undef, undef, undef, undef, undef, undef, undef, undef, undef, undef, undef, undef, undef, undef, undef, undef]
      rfl (by kernel_rfl) (by kernel_rfl) (by kernel_rfl) hN (Below.refl _ W0).drew (fun W W' h hB => h.trans (hB.mono h.size)) ?_ ?_
    · refine Each.val 8 (.pointer (some ⟨w.heap.size, 0, none⟩)) (by kernel_rfl) (by kernel_rfl) (by kernel_rfl) hN (fun W hS _ => fa51_0 rfl (by kernel_rfl)) ?_
      refine Each.val 9 (.int .i64 p) (by kernel_rfl) (by kernel_rfl) (by kernel_rfl) hN (fun W hS _ => ld3 rfl (by kernel_rfl) ((HK.out W hS).1)) ?_
      refine Each.val 10 (.pointer (some ⟨Bg, 0, none⟩)) (by kernel_rfl) (by kernel_rfl) (by kernel_rfl) hN (fun _ _ _ => by kernel_rfl) ?_
      refine Each.val 11 (.pointer (some ⟨Bg, 0, none⟩)) (by kernel_rfl) (by kernel_rfl) (by kernel_rfl) hN (fun _ _ _ => by kernel_rfl) ?_
      refine Each.val 12 (.pointer (some ⟨Bg, 1, none⟩)) (by kernel_rfl) (by kernel_rfl) (by kernel_rfl) hN (fun W hS _ => fa27_1 rfl (by kernel_rfl)) ?_
      refine Each.val 13 (.slice g.pa g.prods.length g.pc) (by kernel_rfl) (by kernel_rfl) (by kernel_rfl) hN (fun W hS _ => ld23 rfl (by kernel_rfl) ((HK.out W hS).2.2)) ?_
      refine Each.val 14 (.int .i64 (g.prods.length : Nat)) (by kernel_rfl) (by kernel_rfl) (by kernel_rfl) hN (fun W hS _ => len23 (a := g.pa) (c := g.pc) rfl (by kernel_rfl)) ?_
      refine Each.call 15 (.bool false) 42 #[.int .i64 p, .int .i64 (g.prods.length : Nat)] (by kernel_rfl) (by kernel_rfl) (by kernel_rfl) (fun _ _ => by kernel_rfl) (fun W hS => HN.out W) ?_
      refine Each.val 16 (.bool true) (by kernel_rfl) (by kernel_rfl) (by kernel_rfl) hN (fun _ _ _ => by kernel_rfl) ?_
      refine Each.val 17 (.bool true) (by kernel_rfl) (by kernel_rfl) (by kernel_rfl) hN (fun _ _ _ => by kernel_rfl) ?_
      refine Each.off 18 (by kernel_rfl) (by kernel_rfl) (by kernel_rfl) ?_
      refine Each.off 19 (by kernel_rfl) (by kernel_rfl) (by kernel_rfl) ?_
      refine Each.off 20 (by kernel_rfl) (by kernel_rfl) (by kernel_rfl) ?_
      refine Each.val 21 (.bool true) (by kernel_rfl) (by kernel_rfl) (by kernel_rfl) hN (fun _ _ _ => by kernel_rfl) ?_
      exact trivial
    · intro w1 hS
      have HB3 := Lib.hid (HB.out.trans (hS.mono HB.out.size))
      clear hS hN
      go_wp2
      go_ret
      exact ⟨by rw [HR3.out]; try rfl, HB3.out⟩
  | true =>
    obtain ⟨m, rfl, hm⟩ := numB_nat i1
    rw [i1] at HN HT
    cases i2 : ((n : Int) == 0) with
    | false =>
      have HR3 : Hid (q = false) := Lib.hid (by rw [HT.out, i2]; rfl)
      clear HT i1 HNe HKf HIh HBg HG HTr HRi Hb1
      go_enter Try.func50, Try.ntmps50
      go_wp2_with fail
      rw [← hW0]
      clear hW0
      refine wp_region_vals0 (N := fun W W' => Below W.heap.size W W') (S := fun W => Below W0.heap.size W0 W)
        [.pointer (some ⟨w.heap.size, 0, none⟩), .int .i64 (m : Nat), .pointer (some ⟨Bg, 0, none⟩), .pointer (some ⟨Bg, 0, none⟩), .pointer (some ⟨Bg, 1, none⟩), .slice g.pa g.prods.length g.pc, .int .i64 (g.prods.length : Nat), .bool true, .bool false, .bool false, .pointer (some ⟨w.heap.size, 1, none⟩), .int .u8 (n : Nat), .bool true, .bool true]
        #[.pointer (some ⟨Bg, 0, none⟩), .agg #[.int .i64 (m : Nat), .int .u8 (n : Nat), .slice ka kids.length kc], undef, .pointer (some ⟨w.heap.size, 0, none⟩), .bool false, undef, undef, undef, .pointer (some ⟨w.heap.size, 0, none⟩), .int .i64 (m : Nat), .pointer (some ⟨Bg, 0, none⟩), .pointer (some ⟨Bg, 0, none⟩), .pointer (some ⟨Bg, 1, none⟩), .slice g.pa g.prods.length g.pc, .int .i64 (g.prods.length : Nat), .bool true, .bool false, .bool false, .pointer (some ⟨w.heap.size, 1, none⟩), .int .u8 (n : Nat), .bool true, .bool true, undef, undef, undef, undef, undef, undef, undef, undef, undef, undef, undef, undef, undef, undef, undef, undef, undef, undef, undef, undef, undef, undef, undef, undef, undef, undef, undef, undef, undef, undef, undef, undef, undef, undef, undef, undef, undef, undef]
        rfl (by kernel_rfl) (by kernel_rfl) (by kernel_rfl) hN (Below.refl _ W0).drew (fun W W' h hB => h.trans (hB.mono h.size)) ?_ ?_
      · refine Each.val 8 (.pointer (some ⟨w.heap.size, 0, none⟩)) (by kernel_rfl) (by kernel_rfl) (by kernel_rfl) hN (fun W hS _ => fa51_0 rfl (by kernel_rfl)) ?_
        refine Each.val 9 (.int .i64 (m : Nat)) (by kernel_rfl) (by kernel_rfl) (by kernel_rfl) hN (fun W hS _ => ld3 rfl (by kernel_rfl) ((HK.out W hS).1)) ?_
        refine Each.val 10 (.pointer (some ⟨Bg, 0, none⟩)) (by kernel_rfl) (by kernel_rfl) (by kernel_rfl) hN (fun _ _ _ => by kernel_rfl) ?_
        refine Each.val 11 (.pointer (some ⟨Bg, 0, none⟩)) (by kernel_rfl) (by kernel_rfl) (by kernel_rfl) hN (fun _ _ _ => by kernel_rfl) ?_
        refine Each.val 12 (.pointer (some ⟨Bg, 1, none⟩)) (by kernel_rfl) (by kernel_rfl) (by kernel_rfl) hN (fun W hS _ => fa27_1 rfl (by kernel_rfl)) ?_
        refine Each.val 13 (.slice g.pa g.prods.length g.pc) (by kernel_rfl) (by kernel_rfl) (by kernel_rfl) hN (fun W hS _ => ld23 rfl (by kernel_rfl) ((HK.out W hS).2.2)) ?_
        refine Each.val 14 (.int .i64 (g.prods.length : Nat)) (by kernel_rfl) (by kernel_rfl) (by kernel_rfl) hN (fun W hS _ => len23 (a := g.pa) (c := g.pc) rfl (by kernel_rfl)) ?_
        refine Each.call 15 (.bool true) 42 #[.int .i64 (m : Nat), .int .i64 (g.prods.length : Nat)] (by kernel_rfl) (by kernel_rfl) (by kernel_rfl) (fun _ _ => by kernel_rfl) (fun W hS => HN.out W) ?_
        refine Each.val 16 (.bool false) (by kernel_rfl) (by kernel_rfl) (by kernel_rfl) hN (fun _ _ _ => by kernel_rfl) ?_
        refine Each.val 17 (.bool false) (by kernel_rfl) (by kernel_rfl) (by kernel_rfl) hN (fun _ _ _ => by kernel_rfl) ?_
        refine Each.val 18 (.pointer (some ⟨w.heap.size, 1, none⟩)) (by kernel_rfl) (by kernel_rfl) (by kernel_rfl) hN (fun W hS _ => fa51_1 rfl (by kernel_rfl)) ?_
        refine Each.val 19 (.int .u8 (n : Nat)) (by kernel_rfl) (by kernel_rfl) (by kernel_rfl) hN (fun W hS _ => ld5 rfl (by kernel_rfl) ((HK.out W hS).2.1)) ?_
        refine Each.val 20 (.bool true) (by kernel_rfl) (by kernel_rfl) (by kernel_rfl) hN (fun W hS _ => ex_neq5 rfl (by kernel_rfl) (by kernel_rfl) (i2)) ?_
        refine Each.val 21 (.bool true) (by kernel_rfl) (by kernel_rfl) (by kernel_rfl) hN (fun _ _ _ => by kernel_rfl) ?_
        exact trivial
      · intro w1 hS
        have HB3 := Lib.hid (HB.out.trans (hS.mono HB.out.size))
        clear hS hN
        go_wp2
        go_ret
        exact ⟨by rw [HR3.out]; try rfl, HB3.out⟩
    | true =>
      obtain ⟨x, hx⟩ : ∃ x, g.prods[m]? = some x := ⟨_, List.getElem?_eq_getElem hm⟩
      have HX : Hid (q = (!(x.role == 11) && kids.length == x.right.length && (kids.zip x.right).all fun q => ofTB g (treeB g d) q.2 q.1)) := Lib.hid (by rw [HT.out, i2, Int.toNat_natCast, hx]; rfl)
      have HMem := Lib.hid (List.mem_of_getElem? hx)
      have hxr := HRi.out x HMem.out
      obtain ⟨pb, po, hpa, hbw, hc, hpi⟩ := HG.out.prods m x hx
      have HPa := Lib.hid hpa
      have HC := Lib.hid hc
      have HPi := Lib.hid hpi
      clear HT i1 hx hc hpi hpa
      go_enter Try.func50, Try.ntmps50
      go_wp2_with fail
      rw [← hW0]
      clear hW0
      refine wp_region_vals0 (N := fun W W' => Below W.heap.size W W') (S := fun W => Below W0.heap.size W0 W)
        [.pointer (some ⟨w.heap.size, 0, none⟩), .int .i64 (m : Nat), .pointer (some ⟨Bg, 0, none⟩), .pointer (some ⟨Bg, 0, none⟩), .pointer (some ⟨Bg, 1, none⟩), .slice g.pa g.prods.length g.pc, .int .i64 (g.prods.length : Nat), .bool true, .bool false, .bool false, .pointer (some ⟨w.heap.size, 1, none⟩), .int .u8 (n : Nat), .bool false, .bool false]
        #[.pointer (some ⟨Bg, 0, none⟩), .agg #[.int .i64 (m : Nat), .int .u8 (n : Nat), .slice ka kids.length kc], undef, .pointer (some ⟨w.heap.size, 0, none⟩), .bool false, undef, undef, undef, .pointer (some ⟨w.heap.size, 0, none⟩), .int .i64 (m : Nat), .pointer (some ⟨Bg, 0, none⟩), .pointer (some ⟨Bg, 0, none⟩), .pointer (some ⟨Bg, 1, none⟩), .slice g.pa g.prods.length g.pc, .int .i64 (g.prods.length : Nat), .bool true, .bool false, .bool false, .pointer (some ⟨w.heap.size, 1, none⟩), .int .u8 (n : Nat), .bool false, .bool false, undef, undef, undef, undef, undef, undef, undef, undef, undef, undef, undef, undef, undef, undef, undef, undef, undef, undef, undef, undef, undef, undef, undef, undef, undef, undef, undef, undef, undef, undef, undef, undef, undef, undef, undef, undef, undef, undef]
        rfl (by kernel_rfl) (by kernel_rfl) (by kernel_rfl) hN (Below.refl _ W0).drew (fun W W' h hB => h.trans (hB.mono h.size)) ?_ ?_
      · refine Each.val 8 (.pointer (some ⟨w.heap.size, 0, none⟩)) (by kernel_rfl) (by kernel_rfl) (by kernel_rfl) hN (fun W hS _ => fa51_0 rfl (by kernel_rfl)) ?_
        refine Each.val 9 (.int .i64 (m : Nat)) (by kernel_rfl) (by kernel_rfl) (by kernel_rfl) hN (fun W hS _ => ld3 rfl (by kernel_rfl) ((HK.out W hS).1)) ?_
        refine Each.val 10 (.pointer (some ⟨Bg, 0, none⟩)) (by kernel_rfl) (by kernel_rfl) (by kernel_rfl) hN (fun _ _ _ => by kernel_rfl) ?_
        refine Each.val 11 (.pointer (some ⟨Bg, 0, none⟩)) (by kernel_rfl) (by kernel_rfl) (by kernel_rfl) hN (fun _ _ _ => by kernel_rfl) ?_
        refine Each.val 12 (.pointer (some ⟨Bg, 1, none⟩)) (by kernel_rfl) (by kernel_rfl) (by kernel_rfl) hN (fun W hS _ => fa27_1 rfl (by kernel_rfl)) ?_
        refine Each.val 13 (.slice g.pa g.prods.length g.pc) (by kernel_rfl) (by kernel_rfl) (by kernel_rfl) hN (fun W hS _ => ld23 rfl (by kernel_rfl) ((HK.out W hS).2.2)) ?_
        refine Each.val 14 (.int .i64 (g.prods.length : Nat)) (by kernel_rfl) (by kernel_rfl) (by kernel_rfl) hN (fun W hS _ => len23 (a := g.pa) (c := g.pc) rfl (by kernel_rfl)) ?_
        refine Each.call 15 (.bool true) 42 #[.int .i64 (m : Nat), .int .i64 (g.prods.length : Nat)] (by kernel_rfl) (by kernel_rfl) (by kernel_rfl) (fun _ _ => by kernel_rfl) (fun W hS => HN.out W) ?_
        refine Each.val 16 (.bool false) (by kernel_rfl) (by kernel_rfl) (by kernel_rfl) hN (fun _ _ _ => by kernel_rfl) ?_
        refine Each.val 17 (.bool false) (by kernel_rfl) (by kernel_rfl) (by kernel_rfl) hN (fun _ _ _ => by kernel_rfl) ?_
        refine Each.val 18 (.pointer (some ⟨w.heap.size, 1, none⟩)) (by kernel_rfl) (by kernel_rfl) (by kernel_rfl) hN (fun W hS _ => fa51_1 rfl (by kernel_rfl)) ?_
        refine Each.val 19 (.int .u8 (n : Nat)) (by kernel_rfl) (by kernel_rfl) (by kernel_rfl) hN (fun W hS _ => ld5 rfl (by kernel_rfl) ((HK.out W hS).2.1)) ?_
        refine Each.val 20 (.bool false) (by kernel_rfl) (by kernel_rfl) (by kernel_rfl) hN (fun W hS _ => ex_neq5 rfl (by kernel_rfl) (by kernel_rfl) (i2)) ?_
        refine Each.val 21 (.bool false) (by kernel_rfl) (by kernel_rfl) (by kernel_rfl) hN (fun _ _ _ => by kernel_rfl) ?_
        exact trivial
      · intro w1 hS
        have HB3 := Lib.hid (HB.out.trans (hS.mono HB.out.size))
        have Hb3 := Lib.hid (Hb1.out.below hS Hb1.out.lt)
        have HBg3 := Lib.hid (HBg.out.below HB3.out HBg.out.lt)
        have g1 := HBg3.out.gram.2.1
        rw [HPa.out] at g1
        have lg3 := HBg3.out.lt
        have lb3 := Hb3.out.lt
        have a0 := Hb3.out.cell 0
        have a2 := Hb3.out.cell 2
        simp only [List.getElem?_toArray, List.getElem?_cons_zero, List.getElem?_cons_succ] at a0 a2
        have lpb : pb < w1.heap.size := Nat.lt_of_lt_of_le hbw HB3.out.size
        obtain ⟨c0, c1, c2, c3, c4, c5, c6⟩ := Prod_at (HC.out.below HB3.out hbw)
        have m1 : (m : Int) < (g.prods.length : Int) := by omega
        clear hS hN HK HN
        go_wp2
        go_region
        obtain ⟨W2, hW2⟩ : ∃ W, W = (w1.alloc (.cells #[.int .i64 x.left, .slice x.ra x.right.length x.rc, .string x.cons, .int .i64 x.role, .bool x.prefer, .bool x.avoid, .int .i64 x.frm] 46)).drew := ⟨_, rfl⟩
        have hb2 : Blk W2 w1.heap.size 46 (prodC x) := by rw [hW2]; exact Blk.new w1 46 _
        have hBw2 : Below w1.heap.size w1 W2 := by rw [hW2]; exact ((Below.refl _ _).alloc (Nat.le_refl _) _).drew
        rw [← hW2]
        have Hb2 := Lib.hid hb2
        have HB4 := Lib.hid (HB3.out.trans (hBw2.mono HB3.out.size))
        have Hb4 := Lib.hid (Hb3.out.below hBw2 Hb3.out.lt)
        have HBg4 := Lib.hid (HBg3.out.below hBw2 HBg3.out.lt)
        obtain ⟨_, d1, _, d3, _, _, _⟩ := hb2.prod
        have l2 := hb2.lt
        have b2 := Hb4.out.cell 2
        simp only [List.getElem?_toArray, List.getElem?_cons_zero, List.getElem?_cons_succ] at b2
        have lb4 := Hb4.out.lt
        obtain ⟨xra, hxra⟩ : ∃ a, a = x.ra := ⟨_, rfl⟩
        have HXra := Lib.hid hxra
        rw [← hxra] at d1 ⊢
        clear hW2 hb2 hBw2 hxra c0 c1 c2 c3 c4 c5 c6 a0 a2 g1
        cases h1 : (x.role == 11) with
        | true =>
          have HR3 : Hid (q = false) := Lib.hid (by rw [HX.out, h1]; rfl)
          go_wp2
          go_ret
          exact ⟨by rw [HR3.out]; try rfl, HB4.out⟩
        | false =>
          cases h2 : (kids.length == x.right.length) with
          | false =>
            have HR3 : Hid (q = false) := Lib.hid (by rw [HX.out, h2]; simp)
            have h3 : ((kids.length : Int) == (x.right.length : Int)) = false := by
              rw [beq_eq_false_iff_ne] at h2 ⊢
              omega
            have h4 : ((kids.length : Int) != (x.right.length : Int)) = true := by rw [bne, h3]; rfl
            go_wp2
            go_ret
            exact ⟨by rw [HR3.out]; try rfl, HB4.out⟩
          | true =>
            have HL2 := Lib.hid (eq_of_beq h2)
            have HX2 : Hid (q = (kids.zip x.right).all fun q => ofTB g (treeB g d) q.2 q.1) := Lib.hid (by rw [HX.out, h1, h2]; simp)
            have h3 : ((kids.length : Int) == (x.right.length : Int)) = true := by
              rw [beq_iff_eq, HL2.out]
            have h4 : ((kids.length : Int) != (x.right.length : Int)) = false := by rw [bne, h3]; rfl
            have HLn := Lib.hid hlen
            have hrl : kids.length ≤ 1048576 := hlen
            clear HX h2
            go_wp2
            have HB5 := Lib.hid (Below.refl W2.heap.size W2)
            go_loopw [45] (fun i wr => ∃ k : Nat, i = .int .i64 k ∧ k ≤ kids.length ∧ Hid (((kids.zip x.right).take k).all (fun q => ofTB g (treeB g d) q.2 q.1) = true) ∧ Hid (Below W2.heap.size W2 wr))
              (fun i _ => kids.length - (intOf i).toNat)
            case atStart => exact ⟨0, rfl, Nat.zero_le _, Lib.hid rfl, HB5⟩
            case round =>
              clear HB5 b2 d1 d3
              obtain ⟨k, rfl, hk, hA, hB⟩ := hrel
              by_cases hlt : k < kids.length
              · obtain ⟨kd, hkd⟩ : ∃ y, kids[k]? = some y := ⟨_, List.getElem?_eq_getElem hlt⟩
                obtain ⟨s, hs⟩ : ∃ y, x.right[k]? = some y := ⟨_, List.getElem?_eq_getElem (by rw [← HL2.out]; exact hlt)⟩
                have hkm := List.mem_of_getElem? hkd
                have hz : (kids.zip x.right)[k]? = some (kd, s) := by rw [List.getElem?_zip_eq_some]; exact ⟨hkd, hs⟩
                have HZ := Lib.hid (take_snoc _ k _ hz)
                obtain ⟨kb, ko, rfl, hkb, hkc, hki⟩ := HTr.out k kd hkd
                obtain ⟨rb, ro, hra, hrb, hrc, _⟩ := HPi.out k s hs
                rw [← HXra.out] at hra
                subst hra
                have hBr := HB4.out.trans (hB.out.mono HB4.out.size)
                have HBr := Lib.hid hBr
                have hfd : ∃ d', TFit (d' + 1) kd := by
                  have h1 := HKf.out kd hkm
                  have h2 := HNe.out kd hkm
                  cases d with
                  | zero => unfold nestB at h2; cases h2
                  | succ d' => exact ⟨d', h1⟩
                obtain ⟨d', hfd⟩ := hfd
                have HCk := Lib.hid (fun W (hW : Below wr.heap.size wr W) => isTreeOf_any g s kd (treeB g d) d' Bg W (HBg.out.below (hBr.trans (hW.mono hBr.size)) HBg.out.lt) (HG.out.below (hBr.trans (hW.mono hBr.size))) hfd
                  (fun _ V hV => HIh.out kd Bg V (HBg.out.below (hBr.trans ((hW.trans (hV.mono hW.size)).mono hBr.size)) HBg.out.lt) (HG.out.below (hBr.trans ((hW.trans (hV.mono hW.size)).mono hBr.size))) (TreeIn.below (hBr.trans ((hW.trans (hV.mono hW.size)).mono hBr.size)) kd hki) (HKf.out kd hkm) (HNe.out kd hkm))
                  treeB_num)
                have HV : Hid (((kids.zip x.right).take (k + 1)).all (fun q => ofTB g (treeB g d) q.2 q.1) = ofTB g (treeB g d) s kd) := Lib.hid (by rw [HZ.out, List.all_append, hA.out]; simp)
                have HVf : Hid (ofTB g (treeB g d) s kd = false → ((kids.zip x.right).all fun q => ofTB g (treeB g d) q.2 q.1) = false) := Lib.hid (fun h => by
                  rw [Bool.eq_false_iff]
                  intro h2
                  have := List.all_eq_true.1 h2 (kd, s) (List.mem_of_getElem? hz)
                  rw [h] at this
                  cases this)
                generalize ofTB g (treeB g d) s kd = r at *
                obtain ⟨tp, tb, ta, tc, tk⟩ := kd
                obtain ⟨t0, t1, t2⟩ := Tree_at (hkc.below hBr hkb)
                obtain ⟨s0, s1, s2, s3, s4, s5⟩ := Sym_at (hrc.below hBr hrb)
                obtain ⟨sk, ss, so⟩ := s
                have lrb : rb < wr.heap.size := Nat.lt_of_lt_of_le hrb hBr.size
                have lw2 : w1.heap.size < wr.heap.size := Nat.lt_of_lt_of_le l2 hB.out.size
                have hb2r := (Hb2.out.below hB.out l2).prod.2.1
                rw [← HXra.out] at hb2r
                have k1 : (k : Int) < (kids.length : Int) := by omega
                have k2 : (k : Int) < (x.right.length : Int) := by have := HL2.out; omega
                have hb3 := Blk.new wr 51 #[.int .i64 tp, .int .u8 tb, .slice ta tk.length tc]
                obtain ⟨W3, hW3⟩ : ∃ W, W = wr.alloc (.cells #[.int .i64 tp, .int .u8 tb, .slice ta tk.length tc] 51) := ⟨_, rfl⟩
                have hB3w : Below wr.heap.size wr W3 := by rw [hW3]; exact (Below.refl _ _).alloc (Nat.le_refl _) _
                rw [← hW3] at hb3
                have v0 := hb3.cell 0
                have v1 := hb3.cell 1
                have v2 := hb3.cell 2
                simp only [List.getElem?_toArray, List.getElem?_cons_zero, List.getElem?_cons_succ] at v0 v1 v2
                have HC3 := Lib.hid (HCk.out W3.drew hB3w.drew)
                have HBr3 := Lib.hid (hB.out.drew.trans ((Below.refl _ _).mono (Nat.le_refl _)))
                have HB3w := Lib.hid hB3w
                unfold symV treeV symC treeC at HC3
                dsimp only at s0 s1 s2 s3 s4 s5
                have z0 := (World.cell?_of_block (hB3w.block rb lrb)).trans s0
                have z1 := (World.cell?_of_block (hB3w.block rb lrb)).trans s1
                have z2 := (World.cell?_of_block (hB3w.block rb lrb)).trans s2
                have z3 := (World.cell?_of_block (hB3w.block rb lrb)).trans s3
                have z4 := (World.cell?_of_block (hB3w.block rb lrb)).trans s4
                have z5 := (World.cell?_of_block (hB3w.block rb lrb)).trans s5
                have z6 := (World.cell?_of_block (hB3w.block w1.heap.size lw2)).trans hb2r
                have l3 : wr.heap.size < W3.heap.size := hb3.lt
                clear hkd hs hz hki hkc hrc hfd HZ HCk hb3 hB3w hBr s0 s1 s2 s3 s4 s5 hb2r
                go_wp2_with fail
                rw [← hW3]
                clear hW3 t0 t1 t2
                go_region_held2 (fun W => W.cell? ⟨w1.heap.size, 1, none⟩ = some (.slice (some ⟨rb, ro, none⟩) x.right.length x.rc) ∧ W.cell? ⟨rb, ro + k * 6, none⟩ = some (.int .i64 sk) ∧ W.cell? ⟨rb, ro + k * 6 + 1, none⟩ = some (.int .u64 (wdI ss 0)) ∧ W.cell? ⟨rb, ro + k * 6 + 2, none⟩ = some (.int .u64 (wdI ss 1))
                    ∧ W.cell? ⟨rb, ro + k * 6 + 3, none⟩ = some (.int .u64 (wdI ss 2)) ∧ W.cell? ⟨rb, ro + k * 6 + 4, none⟩ = some (.int .u64 (wdI ss 3)) ∧ W.cell? ⟨rb, ro + k * 6 + 5, none⟩ = some (.int .i64 so)
                    ∧ W.cell? ⟨wr.heap.size, 0, none⟩ = some (.int .i64 tp) ∧ W.cell? ⟨wr.heap.size, 1, none⟩ = some (.int .u8 tb) ∧ W.cell? ⟨wr.heap.size, 2, none⟩ = some (.slice ta tk.length tc)) (go_keep)
                  ((go_at_call 68; (with_reducible refine HC3.out.mono ?_); rintro e w5 ⟨rfl, hB5⟩; have hB5' : Below W3.heap.size W3 w5 := ⟨hB5.os, hB5.tape, hB5.output, hB5.size, hB5.block⟩; have y0 := (World.cell?_of_block (hB5'.block wr.heap.size l3)).trans v0; have y1 := (World.cell?_of_block (hB5'.block wr.heap.size l3)).trans v1; have y2 := (World.cell?_of_block (hB5'.block wr.heap.size l3)).trans v2; have l4 : rb < W3.heap.size := (by omega); have l5 : w1.heap.size < W3.heap.size := (by omega); have x0 := (World.cell?_of_block (hB5'.block rb l4)).trans z0; have x1 := (World.cell?_of_block (hB5'.block rb l4)).trans z1; have x2 := (World.cell?_of_block (hB5'.block rb l4)).trans z2; have x3 := (World.cell?_of_block (hB5'.block rb l4)).trans z3; have x4 := (World.cell?_of_block (hB5'.block rb l4)).trans z4; have x5 := (World.cell?_of_block (hB5'.block rb l4)).trans z5; have x6 := (World.cell?_of_block (hB5'.block w1.heap.size l5)).trans z6; have HB5 := Lib.hid (hB.out.trans ((HB3w.out.trans (hB5'.mono HB3w.out.size)).mono hB.out.size)); clear hB5 hB5'))
                clear v0 v1 v2 z0 z1 z2 z3 z4 z5 z6
                cases r with
                | false =>
                  have HR3 : Hid (q = false) := Lib.hid (by rw [HX2.out, HVf.out rfl])
                  go_wp2
                  go_ret
                  exact ⟨by rw [HR3.out]; try rfl, HB4.out.trans (HB5.out.mono HB4.out.size)⟩
                | true =>
                  go_wp2
                  go_roundw
                  case rel => exact ⟨k + 1, by go_num, by omega, HV, HB5⟩
                  case measure => simp [intOf]; omega
              · obtain rfl : k = kids.length := by omega
                have hA2 := hA.out
                rw [List.take_of_length_le (by rw [List.length_zip, HL2.out]; omega)] at hA2
                have HR3 : Hid (q = true) := Lib.hid (by rw [HX2.out, hA2])
                go_wp2
                go_ret
                exact ⟨by rw [HR3.out]; try rfl, HB4.out.trans (hB.out.mono HB4.out.size)⟩
end Go.Proofs.Ytiihdbchchnncaa
