import Derived.Test.YtiihdbchchnncaaM7
import Derived.Test.YtiihdbchchnncaaM8
import Derived.Test.YtiihdbchchnncaaM9
import Derived.Test.YtiihdbchchnncaaM11
section
namespace Go.Proofs.Ytiihdbchchnncaa
open Go Go.RowKit Go.Vals

theorem ld51r {w : World} {o : Oper} {ρ : Operand → Value} {x : Operand} {b : Nat} {v0 v1 v2 : Value} (ho : o.op = .load 51 x) (hx : ρ x = .pointer (some ⟨b, 0, none⟩)) (h : w.cell? ⟨b, 0, none⟩ = some v0 ∧ w.cell? ⟨b, 1, none⟩ = some v1 ∧ w.cell? ⟨b, 2, none⟩ = some v2) : (execOp ρ o).run Try.prog w = .ok (.value (.agg #[v0, v1, v2])) w := by
  obtain ⟨c0, c1, c2⟩ := h
  unfold execOp; rw [ho]; simp only [hx]
  go_simp
theorem ex_notB {w : World} {o : Oper} {ρ : Operand → Value} {x : Operand} {s : Bool} (ho : o.op = .unOp .not 4 x) (hx : ρ x = .bool s) : (execOp ρ o).run Try.prog w = .ok (.value (.bool (!s))) w := by
  unfold execOp; rw [ho]; simp only [hx]
  go_simp
theorem wd0 (i : Nat) (h : i < 4) : wdI (0#256) i = 0 := by
  match i, h with
  | 0, _ => decide +kernel
  | 1, _ => decide +kernel
  | 2, _ => decide +kernel
  | 3, _ => decide +kernel

set_option maxRecDepth 100000 in
set_option maxHeartbeats 4000000 in
theorem rctree_any (g : GramM) (t : TreeM) (w : World) (hg : GIn w g) (hf : FitG g) (ht : TreeIn w t) (hfit : TFit 16384 t) :
    Calls Try.prog 23 #[gramV g, treeV t] w fun e w' => e = .returned (.int .i64 (ctI g t)) ∧ Below w.heap.size w w' := by
  have T0 := Lib.hid (TwoG.start w (gramC g) 51 (treeC t))
  have HCk := Lib.hid (rcheck_any g _ (hg.below T0.out.bl) hf)
  have HDe := Lib.hid (fun W (hW : Below w.heap.size w W) => deep_any 16384 (by omega) t W (TreeIn.below hW t ht) hfit)
  rw [show ((16384 : Nat) : Int) = 16384 from rfl] at HDe
  have HFi := Lib.hid (fun (h : nestB 16384 t = true) (s : SymM) W (hW : Below w.heap.size w W) => fits_any g hf.fit.right hf.fit.prods 16384 s t W (hg.below hW) (TreeIn.below hW t ht) hfit h)
  have HR : Hid (ctI g t = if !(checkB g) then 160 else if !(nestB 16384 t) then 3 else if !(treeB g 16384 t) then 163 else 0) := Lib.hid rfl
  have HTN : Hid (treeB g 16384 t = true → ∃ m : Nat, prodOf t = m ∧ m < g.prods.length) := Lib.hid treeB_num
  have HOF : Hid (∀ (i : Nat) (P : ProdM), prodOf t = i → g.prods[i]? = some P → ofTB g (treeB g 16384) ⟨1, 0#256, P.left⟩ t = treeB g 16384 t) := Lib.hid fun i P hi hP => by
    obtain ⟨p, b, ka, kc, kids⟩ := t
    unfold prodOf at hi
    dsimp only at hi
    unfold ofTB
    dsimp only
    rw [if_neg (by decide : ¬ (1 : Int) = 0), hi, Int.toNat_natCast, hP]
    simp
  have HG := Lib.hid hg
  obtain ⟨q, hq⟩ : ∃ q, q = ctI g t := ⟨_, rfl⟩
  rw [← hq] at HR ⊢
  clear hg hf ht hfit hq
  generalize treeB g 16384 t = tb at *
  generalize nestB 16384 t = nb at *
  obtain ⟨p, b, ka, kc, kids⟩ := t
  unfold prodOf at HTN HOF
  unfold gramV gramC treeV treeC at *
  dsimp only at *
  cases hc : checkB g with
  | false =>
    rw [hc] at HCk
    have HE : Hid (q = 160) := Lib.hid (by rw [HR.out, hc]; rfl)
    rw [show errI false = 160 from rfl] at HCk
    clear HR HDe HFi HTN HOF hc
    go_enter Try.func23, Try.ntmps23
    go_wp2_with fail
    with_reducible refine HCk.out.mono ?_
    rintro e w3 ⟨rfl, hB3⟩
    have T := Lib.hid (T0.out.below hB3)
    clear hB3 T0 HCk
    obtain ⟨c0, c1, c2, c3, c4⟩ := cells5' T.out.b0
    obtain ⟨t0, t1, t2⟩ := cells3t T.out.b1
    have l0 := T.out.b0.lt
    have l1 := T.out.b1.lt
    go_wp2
    go_ret
    exact ⟨by rw [HE.out]; rfl, T.out.bl⟩
  | true =>
    rw [hc] at HCk
    rw [show errI true = 0 from rfl] at HCk
    cases nb with
    | false =>
      have HE : Hid (q = 3) := Lib.hid (by rw [HR.out, hc]; rfl)
      clear HR HFi HTN HOF hc
      go_enter Try.func23, Try.ntmps23
      go_wp2_with fail
      with_reducible refine HCk.out.mono ?_
      rintro e w3 ⟨rfl, hB3⟩
      have T := Lib.hid (T0.out.below hB3)
      clear hB3 T0 HCk
      obtain ⟨c0, c1, c2, c3, c4⟩ := cells5' T.out.b0
      obtain ⟨t0, t1, t2⟩ := cells3t T.out.b1
      have l0 := T.out.b0.lt
      have l1 := T.out.b1.lt
      have HD3 := Lib.hid (HDe.out w3 T.out.bl)
      go_wp2_with fail
      with_reducible refine HD3.out.mono ?_
      rintro e w4 ⟨rfl, hB4⟩
      have T4 := Lib.hid (T.out.below hB4)
      clear hB4 T HDe HD3 c0 c1 c2 c3 c4 t0 t1 t2 l0 l1
      obtain ⟨c0, c1, c2, c3, c4⟩ := cells5' T4.out.b0
      obtain ⟨t0, t1, t2⟩ := cells3t T4.out.b1
      have l0 := T4.out.b0.lt
      have l1 := T4.out.b1.lt
      go_wp2
      go_ret
      exact ⟨by rw [HE.out]; rfl, T4.out.bl⟩
    | true =>
      have HR2 : Hid (q = if !tb then 163 else 0) := Lib.hid (by rw [HR.out, hc]; rfl)
      have HF2 := Lib.hid (HFi.out rfl)
      clear HR HFi hc
      by_cases h1 : p < 0
      · have d1 : decide (p < 0) = true := by simpa using h1
        have HE : Hid (q = 163) := Lib.hid (by
          rw [HR2.out]
          cases tb with
          | false => rfl
          | true => obtain ⟨m, hm, _⟩ := HTN.out rfl; omega)
        clear HTN HOF HF2 HR2 h1
        go_enter Try.func23, Try.ntmps23
        go_wp2_with fail
        with_reducible refine HCk.out.mono ?_
        rintro e w3 ⟨rfl, hB3⟩
        have T := Lib.hid (T0.out.below hB3)
        clear hB3 T0 HCk
        obtain ⟨c0, c1, c2, c3, c4⟩ := cells5' T.out.b0
        obtain ⟨t0, t1, t2⟩ := cells3t T.out.b1
        have l0 := T.out.b0.lt
        have l1 := T.out.b1.lt
        have HD3 := Lib.hid (HDe.out w3 T.out.bl)
        go_wp2_with fail
        with_reducible refine HD3.out.mono ?_
        rintro e w4 ⟨rfl, hB4⟩
        have T4 := Lib.hid (T.out.below hB4)
        clear hB4 T HDe HD3 c0 c1 c2 c3 c4 t0 t1 t2 l0 l1
        obtain ⟨c0, c1, c2, c3, c4⟩ := cells5' T4.out.b0
        obtain ⟨t0, t1, t2⟩ := cells3t T4.out.b1
        have l0 := T4.out.b0.lt
        have l1 := T4.out.b1.lt
        go_wp2_with fail
        have HK : Hid (∀ W, Below w4.heap.size w4 W → (W.cell? ⟨w.heap.size, 0, none⟩ = some (.slice g.sa g.sorts.length g.sc) ∧ W.cell? ⟨w.heap.size, 1, none⟩ = some (.slice g.pa g.prods.length g.pc) ∧ W.cell? ⟨w.heap.size, 2, none⟩ = some (.int .i64 g.start) ∧ W.cell? ⟨w.heap.size, 3, none⟩ = some (.slice g.fa g.forbid.length g.fc) ∧ W.cell? ⟨w.heap.size, 4, none⟩ = some (.slice g.wa g.follow.length g.wc)) ∧ (W.cell? ⟨w.heap.size + 1, 0, none⟩ = some (.int .i64 p) ∧ W.cell? ⟨w.heap.size + 1, 1, none⟩ = some (.int .u8 b) ∧ W.cell? ⟨w.heap.size + 1, 2, none⟩ = some (.slice ka kids.length kc))) := Lib.hid (fun W hW => by
          have k1 := T4.out.b0.below hW T4.out.b0.lt
          have k2 := T4.out.b1.below hW T4.out.b1.lt
          exact ⟨cells5' k1, cells3t k2⟩)
        have hN : ∀ W : World, Below W.heap.size W W := fun W => Below.refl _ W
        refine wp_region_vals0 (N := fun W W' => Below W.heap.size W W') (S := fun W => Below w4.heap.size w4 W)
          [.pointer (some ⟨w.heap.size + 1, 0, none⟩), .int .i64 p, .bool true, .bool true, undef, undef, undef, undef, undef, undef, .bool true, .bool true, undef, undef, undef, undef, undef, undef, undef, undef, undef, undef, undef, undef, .bool true]
          #[.agg #[.slice g.sa g.sorts.length g.sc, .slice g.pa g.prods.length g.pc, .int .i64 g.start, .slice g.fa g.forbid.length g.fc, .slice g.wa g.follow.length g.wc], .agg #[.int .i64 p, .int .u8 b, .slice ka kids.length kc], .pointer (some ⟨w.heap.size, 0, none⟩), .pointer (some ⟨w.heap.size + 1, 0, none⟩), .int .i64 0, .agg #[.slice g.sa g.sorts.length g.sc, .slice g.pa g.prods.length g.pc, .int .i64 g.start, .slice g.fa g.forbid.length g.fc, .slice g.wa g.follow.length g.wc], .int .i64 0, .bool false, .agg #[.int .i64 p, .int .u8 b, .slice ka kids.length kc], .bool false, .pointer (some ⟨w.heap.size + 1, 0, none⟩), .int .i64 p, .bool true, .bool true, undef, undef, undef, undef, undef, undef, .bool true, .bool true, undef, undef, undef, undef, undef, undef, undef, undef, undef, undef, undef, undef, .bool true]
          rfl (by kernel_rfl) (by kernel_rfl) (by kernel_rfl) hN (Below.refl _ w4).drew (fun W W' h hB => h.trans (hB.mono h.size)) ?_ ?_
        · refine Each.val 10 (.pointer (some ⟨w.heap.size + 1, 0, none⟩)) (by kernel_rfl) (by kernel_rfl) (by kernel_rfl) hN (fun W hS _ => fa51_0 rfl (by kernel_rfl)) ?_
          refine Each.val 11 (.int .i64 p) (by kernel_rfl) (by kernel_rfl) (by kernel_rfl) hN (fun W hS _ => ld3 rfl (by kernel_rfl) ((HK.out W hS).2.1)) ?_
          refine Each.val 12 (.bool true) (by kernel_rfl) (by kernel_rfl) (by kernel_rfl) hN (fun W hS _ => ex_lss rfl (by kernel_rfl) (by kernel_rfl) (d1)) ?_
          refine Each.val 13 (.bool true) (by kernel_rfl) (by kernel_rfl) (by kernel_rfl) hN (fun _ _ _ => by kernel_rfl) ?_
          refine Each.off 14 (by kernel_rfl) (by kernel_rfl) (by kernel_rfl) ?_
          refine Each.off 15 (by kernel_rfl) (by kernel_rfl) (by kernel_rfl) ?_
          refine Each.off 16 (by kernel_rfl) (by kernel_rfl) (by kernel_rfl) ?_
          refine Each.off 17 (by kernel_rfl) (by kernel_rfl) (by kernel_rfl) ?_
          refine Each.off 18 (by kernel_rfl) (by kernel_rfl) (by kernel_rfl) ?_
          refine Each.off 19 (by kernel_rfl) (by kernel_rfl) (by kernel_rfl) ?_
          refine Each.val 20 (.bool true) (by kernel_rfl) (by kernel_rfl) (by kernel_rfl) hN (fun _ _ _ => by kernel_rfl) ?_
          refine Each.val 21 (.bool true) (by kernel_rfl) (by kernel_rfl) (by kernel_rfl) hN (fun _ _ _ => by kernel_rfl) ?_
          refine Each.off 22 (by kernel_rfl) (by kernel_rfl) (by kernel_rfl) ?_
          refine Each.off 23 (by kernel_rfl) (by kernel_rfl) (by kernel_rfl) ?_
          refine Each.off 24 (by kernel_rfl) (by kernel_rfl) (by kernel_rfl) ?_
          refine Each.off 25 (by kernel_rfl) (by kernel_rfl) (by kernel_rfl) ?_
          refine Each.off 26 (by kernel_rfl) (by kernel_rfl) (by kernel_rfl) ?_
          refine Each.off 27 (by kernel_rfl) (by kernel_rfl) (by kernel_rfl) ?_
          refine Each.off 28 (by kernel_rfl) (by kernel_rfl) (by kernel_rfl) ?_
          refine Each.off 29 (by kernel_rfl) (by kernel_rfl) (by kernel_rfl) ?_
          refine Each.off 30 (by kernel_rfl) (by kernel_rfl) (by kernel_rfl) ?_
          refine Each.off 31 (by kernel_rfl) (by kernel_rfl) (by kernel_rfl) ?_
          refine Each.off 32 (by kernel_rfl) (by kernel_rfl) (by kernel_rfl) ?_
          refine Each.off 33 (by kernel_rfl) (by kernel_rfl) (by kernel_rfl) ?_
          refine Each.val 34 (.bool true) (by kernel_rfl) (by kernel_rfl) (by kernel_rfl) hN (fun _ _ _ => by kernel_rfl) ?_
          exact trivial
        · intro w' hS
          have HB5 := Lib.hid (T4.out.bl.trans (hS.mono T4.out.bl.size))
          clear hS hN HK T4 l0 l1 c0 c1 c2 c3 c4 t0 t1 t2
          go_wp2
          go_ret
          exact ⟨by rw [HE.out]; rfl, HB5.out⟩
      · have d1 : decide (p < 0) = false := by simpa using h1
        by_cases h2 : (g.prods.length : Int) ≤ p
        · have d2 : decide ((g.prods.length : Int) ≤ p) = true := by simpa using h2
          have HE : Hid (q = 163) := Lib.hid (by
            rw [HR2.out]
            cases tb with
            | false => rfl
            | true => obtain ⟨m, hm, _⟩ := HTN.out rfl; omega)
          clear HTN HOF HF2 HR2 h1 h2
          go_enter Try.func23, Try.ntmps23
          go_wp2_with fail
          with_reducible refine HCk.out.mono ?_
          rintro e w3 ⟨rfl, hB3⟩
          have T := Lib.hid (T0.out.below hB3)
          clear hB3 T0 HCk
          obtain ⟨c0, c1, c2, c3, c4⟩ := cells5' T.out.b0
          obtain ⟨t0, t1, t2⟩ := cells3t T.out.b1
          have l0 := T.out.b0.lt
          have l1 := T.out.b1.lt
          have HD3 := Lib.hid (HDe.out w3 T.out.bl)
          go_wp2_with fail
          with_reducible refine HD3.out.mono ?_
          rintro e w4 ⟨rfl, hB4⟩
          have T4 := Lib.hid (T.out.below hB4)
          clear hB4 T HDe HD3 c0 c1 c2 c3 c4 t0 t1 t2 l0 l1
          obtain ⟨c0, c1, c2, c3, c4⟩ := cells5' T4.out.b0
          obtain ⟨t0, t1, t2⟩ := cells3t T4.out.b1
          have l0 := T4.out.b0.lt
          have l1 := T4.out.b1.lt
          go_wp2_with fail
          have HK : Hid (∀ W, Below w4.heap.size w4 W → (W.cell? ⟨w.heap.size, 0, none⟩ = some (.slice g.sa g.sorts.length g.sc) ∧ W.cell? ⟨w.heap.size, 1, none⟩ = some (.slice g.pa g.prods.length g.pc) ∧ W.cell? ⟨w.heap.size, 2, none⟩ = some (.int .i64 g.start) ∧ W.cell? ⟨w.heap.size, 3, none⟩ = some (.slice g.fa g.forbid.length g.fc) ∧ W.cell? ⟨w.heap.size, 4, none⟩ = some (.slice g.wa g.follow.length g.wc)) ∧ (W.cell? ⟨w.heap.size + 1, 0, none⟩ = some (.int .i64 p) ∧ W.cell? ⟨w.heap.size + 1, 1, none⟩ = some (.int .u8 b) ∧ W.cell? ⟨w.heap.size + 1, 2, none⟩ = some (.slice ka kids.length kc))) := Lib.hid (fun W hW => by
            have k1 := T4.out.b0.below hW T4.out.b0.lt
            have k2 := T4.out.b1.below hW T4.out.b1.lt
            exact ⟨cells5' k1, cells3t k2⟩)
          have hN : ∀ W : World, Below W.heap.size W W := fun W => Below.refl _ W
          refine wp_region_vals0 (N := fun W W' => Below W.heap.size W W') (S := fun W => Below w4.heap.size w4 W)
            [.pointer (some ⟨w.heap.size + 1, 0, none⟩), .int .i64 p, .bool false, .bool false, .pointer (some ⟨w.heap.size + 1, 0, none⟩), .int .i64 p, .pointer (some ⟨w.heap.size, 1, none⟩), .slice g.pa g.prods.length g.pc, .int .i64 (g.prods.length : Nat), .bool true, .bool true, .bool true, undef, undef, undef, undef, undef, undef, undef, undef, undef, undef, undef, undef, .bool true]
            #[.agg #[.slice g.sa g.sorts.length g.sc, .slice g.pa g.prods.length g.pc, .int .i64 g.start, .slice g.fa g.forbid.length g.fc, .slice g.wa g.follow.length g.wc], .agg #[.int .i64 p, .int .u8 b, .slice ka kids.length kc], .pointer (some ⟨w.heap.size, 0, none⟩), .pointer (some ⟨w.heap.size + 1, 0, none⟩), .int .i64 0, .agg #[.slice g.sa g.sorts.length g.sc, .slice g.pa g.prods.length g.pc, .int .i64 g.start, .slice g.fa g.forbid.length g.fc, .slice g.wa g.follow.length g.wc], .int .i64 0, .bool false, .agg #[.int .i64 p, .int .u8 b, .slice ka kids.length kc], .bool false, .pointer (some ⟨w.heap.size + 1, 0, none⟩), .int .i64 p, .bool false, .bool false, .pointer (some ⟨w.heap.size + 1, 0, none⟩), .int .i64 p, .pointer (some ⟨w.heap.size, 1, none⟩), .slice g.pa g.prods.length g.pc, .int .i64 (g.prods.length : Nat), .bool true, .bool true, .bool true, undef, undef, undef, undef, undef, undef, undef, undef, undef, undef, undef, undef, .bool true]
            rfl (by kernel_rfl) (by kernel_rfl) (by kernel_rfl) hN (Below.refl _ w4).drew (fun W W' h hB => h.trans (hB.mono h.size)) ?_ ?_
          · refine Each.val 10 (.pointer (some ⟨w.heap.size + 1, 0, none⟩)) (by kernel_rfl) (by kernel_rfl) (by kernel_rfl) hN (fun W hS _ => fa51_0 rfl (by kernel_rfl)) ?_
            refine Each.val 11 (.int .i64 p) (by kernel_rfl) (by kernel_rfl) (by kernel_rfl) hN (fun W hS _ => ld3 rfl (by kernel_rfl) ((HK.out W hS).2.1)) ?_
            refine Each.val 12 (.bool false) (by kernel_rfl) (by kernel_rfl) (by kernel_rfl) hN (fun W hS _ => ex_lss rfl (by kernel_rfl) (by kernel_rfl) (d1)) ?_
            refine Each.val 13 (.bool false) (by kernel_rfl) (by kernel_rfl) (by kernel_rfl) hN (fun _ _ _ => by kernel_rfl) ?_
            refine Each.val 14 (.pointer (some ⟨w.heap.size + 1, 0, none⟩)) (by kernel_rfl) (by kernel_rfl) (by kernel_rfl) hN (fun W hS _ => fa51_0 rfl (by kernel_rfl)) ?_
            refine Each.val 15 (.int .i64 p) (by kernel_rfl) (by kernel_rfl) (by kernel_rfl) hN (fun W hS _ => ld3 rfl (by kernel_rfl) ((HK.out W hS).2.1)) ?_
            refine Each.val 16 (.pointer (some ⟨w.heap.size, 1, none⟩)) (by kernel_rfl) (by kernel_rfl) (by kernel_rfl) hN (fun W hS _ => fa27_1 rfl (by kernel_rfl)) ?_
            refine Each.val 17 (.slice g.pa g.prods.length g.pc) (by kernel_rfl) (by kernel_rfl) (by kernel_rfl) hN (fun W hS _ => ld23 rfl (by kernel_rfl) ((HK.out W hS).1.2.1)) ?_
            refine Each.val 18 (.int .i64 (g.prods.length : Nat)) (by kernel_rfl) (by kernel_rfl) (by kernel_rfl) hN (fun W hS _ => len23 (a := g.pa) (c := g.pc) rfl (by kernel_rfl)) ?_
            refine Each.val 19 (.bool true) (by kernel_rfl) (by kernel_rfl) (by kernel_rfl) hN (fun W hS _ => ex_geq rfl (by kernel_rfl) (by kernel_rfl) (d2)) ?_
            refine Each.val 20 (.bool true) (by kernel_rfl) (by kernel_rfl) (by kernel_rfl) hN (fun _ _ _ => by kernel_rfl) ?_
            refine Each.val 21 (.bool true) (by kernel_rfl) (by kernel_rfl) (by kernel_rfl) hN (fun _ _ _ => by kernel_rfl) ?_
            refine Each.off 22 (by kernel_rfl) (by kernel_rfl) (by kernel_rfl) ?_
            refine Each.off 23 (by kernel_rfl) (by kernel_rfl) (by kernel_rfl) ?_
            refine Each.off 24 (by kernel_rfl) (by kernel_rfl) (by kernel_rfl) ?_
            refine Each.off 25 (by kernel_rfl) (by kernel_rfl) (by kernel_rfl) ?_
            refine Each.off 26 (by kernel_rfl) (by kernel_rfl) (by kernel_rfl) ?_
            refine Each.off 27 (by kernel_rfl) (by kernel_rfl) (by kernel_rfl) ?_
            refine Each.off 28 (by kernel_rfl) (by kernel_rfl) (by kernel_rfl) ?_
            refine Each.off 29 (by kernel_rfl) (by kernel_rfl) (by kernel_rfl) ?_
            refine Each.off 30 (by kernel_rfl) (by kernel_rfl) (by kernel_rfl) ?_
            refine Each.off 31 (by kernel_rfl) (by kernel_rfl) (by kernel_rfl) ?_
            refine Each.off 32 (by kernel_rfl) (by kernel_rfl) (by kernel_rfl) ?_
            refine Each.off 33 (by kernel_rfl) (by kernel_rfl) (by kernel_rfl) ?_
            refine Each.val 34 (.bool true) (by kernel_rfl) (by kernel_rfl) (by kernel_rfl) hN (fun _ _ _ => by kernel_rfl) ?_
            exact trivial
          · intro w' hS
            have HB5 := Lib.hid (T4.out.bl.trans (hS.mono T4.out.bl.size))
            clear hS hN HK T4 l0 l1 c0 c1 c2 c3 c4 t0 t1 t2
            go_wp2
            go_ret
            exact ⟨by rw [HE.out]; rfl, HB5.out⟩
        · have d2 : decide ((g.prods.length : Int) ≤ p) = false := by simpa using h2
          obtain ⟨i, rfl⟩ : ∃ i : Nat, p = i := ⟨p.toNat, by omega⟩
          have hi : i < g.prods.length := by omega
          obtain ⟨P, hP⟩ : ∃ x, g.prods[i]? = some x := ⟨_, List.getElem?_eq_getElem hi⟩
          have HOP := HOF.out i P rfl hP
          have HC52 := Lib.hid (fun W hW => HF2.out ⟨1, 0#256, P.left⟩ W hW)
          simp only [HOP] at HC52
          unfold symV symC at HC52
          dsimp only at HC52
          rw [wd0 0 (by omega), wd0 1 (by omega), wd0 2 (by omega), wd0 3 (by omega)] at HC52
          obtain ⟨b1, o1, e1, hb1, hc1, _⟩ := HG.out.prods i P hP
          have E1 := Lib.hid e1
          have HCP := Lib.hid hc1
          clear HTN HOF HOP HF2 h1 h2 hP e1 hc1
          go_enter Try.func23, Try.ntmps23
          go_wp2_with fail
          with_reducible refine HCk.out.mono ?_
          rintro e w3 ⟨rfl, hB3⟩
          have T := Lib.hid (T0.out.below hB3)
          clear hB3 T0 HCk
          obtain ⟨c0, c1, c2, c3, c4⟩ := cells5' T.out.b0
          obtain ⟨t0, t1, t2⟩ := cells3t T.out.b1
          have l0 := T.out.b0.lt
          have l1 := T.out.b1.lt
          have HD3 := Lib.hid (HDe.out w3 T.out.bl)
          go_wp2_with fail
          with_reducible refine HD3.out.mono ?_
          rintro e w4 ⟨rfl, hB4⟩
          have T4 := Lib.hid (T.out.below hB4)
          clear hB4 T HDe HD3 c0 c1 c2 c3 c4 t0 t1 t2 l0 l1
          obtain ⟨c0, c1, c2, c3, c4⟩ := cells5' T4.out.b0
          obtain ⟨t0, t1, t2⟩ := cells3t T4.out.b1
          have l0 := T4.out.b0.lt
          have l1 := T4.out.b1.lt
          go_wp2_with fail
          have HK : Hid (∀ W, Below w4.heap.size w4 W → (W.cell? ⟨w.heap.size, 0, none⟩ = some (.slice g.sa g.sorts.length g.sc) ∧ W.cell? ⟨w.heap.size, 1, none⟩ = some (.slice g.pa g.prods.length g.pc) ∧ W.cell? ⟨w.heap.size, 2, none⟩ = some (.int .i64 g.start) ∧ W.cell? ⟨w.heap.size, 3, none⟩ = some (.slice g.fa g.forbid.length g.fc) ∧ W.cell? ⟨w.heap.size, 4, none⟩ = some (.slice g.wa g.follow.length g.wc)) ∧ (W.cell? ⟨w.heap.size + 1, 0, none⟩ = some (.int .i64 (i : Int)) ∧ W.cell? ⟨w.heap.size + 1, 1, none⟩ = some (.int .u8 b) ∧ W.cell? ⟨w.heap.size + 1, 2, none⟩ = some (.slice ka kids.length kc)) ∧ W.cell? ⟨w.heap.size, 1, none⟩ = some (.slice (some ⟨b1, o1, none⟩) g.prods.length g.pc) ∧ W.cell? ⟨b1, o1 + i * 7, none⟩ = some (.int .i64 P.left)) := Lib.hid (fun W hW => by
            have k1 := T4.out.b0.below hW T4.out.b0.lt
            have k2 := T4.out.b1.below hW T4.out.b1.lt
            exact ⟨cells5' k1, cells3t k2, by rw [← E1.out]; exact (cells5' k1).2.1, (Prod_at ((HCP.out.below T4.out.bl hb1).below hW (Nat.lt_of_lt_of_le hb1 T4.out.bl.size))).1⟩)
          have hN : ∀ W : World, Below W.heap.size W W := fun W => Below.refl _ W
          have HCF := Lib.hid (fun W (hW : Below w4.heap.size w4 W) => HC52.out W (T4.out.bl.trans (hW.mono T4.out.bl.size)))
          refine wp_region_vals0 (N := fun W W' => Below W.heap.size W W') (S := fun W => Below w4.heap.size w4 W)
            [.pointer (some ⟨w.heap.size + 1, 0, none⟩), .int .i64 (i : Nat), .bool false, .bool false, .pointer (some ⟨w.heap.size + 1, 0, none⟩), .int .i64 (i : Nat), .pointer (some ⟨w.heap.size, 1, none⟩), .slice (some ⟨b1, o1, none⟩) g.prods.length g.pc, .int .i64 (g.prods.length : Nat), .bool false, .bool false, .bool false, .agg #[.slice g.sa g.sorts.length g.sc, .slice g.pa g.prods.length g.pc, .int .i64 g.start, .slice g.fa g.forbid.length g.fc, .slice g.wa g.follow.length g.wc], .pointer (some ⟨w.heap.size, 1, none⟩), .slice (some ⟨b1, o1, none⟩) g.prods.length g.pc, .pointer (some ⟨w.heap.size + 1, 0, none⟩), .int .i64 (i : Nat), .pointer (some ⟨b1, o1 + i * 7, none⟩), .pointer (some ⟨b1, o1 + i * 7, none⟩), .int .i64 P.left, .agg #[.int .i64 1, .int .u64 0, .int .u64 0, .int .u64 0, .int .u64 0, .int .i64 P.left], .agg #[.int .i64 (i : Nat), .int .u8 b, .slice ka kids.length kc], .bool tb, .bool (!tb), .bool (!tb)]
            #[.agg #[.slice g.sa g.sorts.length g.sc, .slice g.pa g.prods.length g.pc, .int .i64 g.start, .slice g.fa g.forbid.length g.fc, .slice g.wa g.follow.length g.wc], .agg #[.int .i64 (i : Nat), .int .u8 b, .slice ka kids.length kc], .pointer (some ⟨w.heap.size, 0, none⟩), .pointer (some ⟨w.heap.size + 1, 0, none⟩), .int .i64 0, .agg #[.slice g.sa g.sorts.length g.sc, .slice g.pa g.prods.length g.pc, .int .i64 g.start, .slice g.fa g.forbid.length g.fc, .slice g.wa g.follow.length g.wc], .int .i64 0, .bool false, .agg #[.int .i64 (i : Nat), .int .u8 b, .slice ka kids.length kc], .bool false, .pointer (some ⟨w.heap.size + 1, 0, none⟩), .int .i64 (i : Nat), .bool false, .bool false, .pointer (some ⟨w.heap.size + 1, 0, none⟩), .int .i64 (i : Nat), .pointer (some ⟨w.heap.size, 1, none⟩), .slice (some ⟨b1, o1, none⟩) g.prods.length g.pc, .int .i64 (g.prods.length : Nat), .bool false, .bool false, .bool false, .agg #[.slice g.sa g.sorts.length g.sc, .slice g.pa g.prods.length g.pc, .int .i64 g.start, .slice g.fa g.forbid.length g.fc, .slice g.wa g.follow.length g.wc], .pointer (some ⟨w.heap.size, 1, none⟩), .slice (some ⟨b1, o1, none⟩) g.prods.length g.pc, .pointer (some ⟨w.heap.size + 1, 0, none⟩), .int .i64 (i : Nat), .pointer (some ⟨b1, o1 + i * 7, none⟩), .pointer (some ⟨b1, o1 + i * 7, none⟩), .int .i64 P.left, .agg #[.int .i64 1, .int .u64 0, .int .u64 0, .int .u64 0, .int .u64 0, .int .i64 P.left], .agg #[.int .i64 (i : Nat), .int .u8 b, .slice ka kids.length kc], .bool tb, .bool (!tb), .bool (!tb)]
            rfl (by kernel_rfl) (by kernel_rfl) (by kernel_rfl) hN (Below.refl _ w4).drew (fun W W' h hB => h.trans (hB.mono h.size)) ?_ ?_
          · refine Each.val 10 (.pointer (some ⟨w.heap.size + 1, 0, none⟩)) (by kernel_rfl) (by kernel_rfl) (by kernel_rfl) hN (fun W hS _ => fa51_0 rfl (by kernel_rfl)) ?_
            refine Each.val 11 (.int .i64 (i : Nat)) (by kernel_rfl) (by kernel_rfl) (by kernel_rfl) hN (fun W hS _ => ld3 rfl (by kernel_rfl) ((HK.out W hS).2.1.1)) ?_
            refine Each.val 12 (.bool false) (by kernel_rfl) (by kernel_rfl) (by kernel_rfl) hN (fun W hS _ => ex_lss rfl (by kernel_rfl) (by kernel_rfl) (d1)) ?_
            refine Each.val 13 (.bool false) (by kernel_rfl) (by kernel_rfl) (by kernel_rfl) hN (fun _ _ _ => by kernel_rfl) ?_
            refine Each.val 14 (.pointer (some ⟨w.heap.size + 1, 0, none⟩)) (by kernel_rfl) (by kernel_rfl) (by kernel_rfl) hN (fun W hS _ => fa51_0 rfl (by kernel_rfl)) ?_
            refine Each.val 15 (.int .i64 (i : Nat)) (by kernel_rfl) (by kernel_rfl) (by kernel_rfl) hN (fun W hS _ => ld3 rfl (by kernel_rfl) ((HK.out W hS).2.1.1)) ?_
            refine Each.val 16 (.pointer (some ⟨w.heap.size, 1, none⟩)) (by kernel_rfl) (by kernel_rfl) (by kernel_rfl) hN (fun W hS _ => fa27_1 rfl (by kernel_rfl)) ?_
            refine Each.val 17 (.slice (some ⟨b1, o1, none⟩) g.prods.length g.pc) (by kernel_rfl) (by kernel_rfl) (by kernel_rfl) hN (fun W hS _ => ld23 rfl (by kernel_rfl) ((HK.out W hS).2.2.1)) ?_
            refine Each.val 18 (.int .i64 (g.prods.length : Nat)) (by kernel_rfl) (by kernel_rfl) (by kernel_rfl) hN (fun W hS _ => len23 (a := (some ⟨b1, o1, none⟩)) (c := g.pc) rfl (by kernel_rfl)) ?_
            refine Each.val 19 (.bool false) (by kernel_rfl) (by kernel_rfl) (by kernel_rfl) hN (fun W hS _ => ex_geq rfl (by kernel_rfl) (by kernel_rfl) (d2)) ?_
            refine Each.val 20 (.bool false) (by kernel_rfl) (by kernel_rfl) (by kernel_rfl) hN (fun _ _ _ => by kernel_rfl) ?_
            refine Each.val 21 (.bool false) (by kernel_rfl) (by kernel_rfl) (by kernel_rfl) hN (fun _ _ _ => by kernel_rfl) ?_
            refine Each.val 22 (.agg #[.slice g.sa g.sorts.length g.sc, .slice g.pa g.prods.length g.pc, .int .i64 g.start, .slice g.fa g.forbid.length g.fc, .slice g.wa g.follow.length g.wc]) (by kernel_rfl) (by kernel_rfl) (by kernel_rfl) hN (fun W hS _ => ld27r rfl (by kernel_rfl) (HK.out W hS).1) ?_
            refine Each.val 23 (.pointer (some ⟨w.heap.size, 1, none⟩)) (by kernel_rfl) (by kernel_rfl) (by kernel_rfl) hN (fun W hS _ => fa27_1 rfl (by kernel_rfl)) ?_
            refine Each.val 24 (.slice (some ⟨b1, o1, none⟩) g.prods.length g.pc) (by kernel_rfl) (by kernel_rfl) (by kernel_rfl) hN (fun W hS _ => ld23 rfl (by kernel_rfl) ((HK.out W hS).2.2.1)) ?_
            refine Each.val 25 (.pointer (some ⟨w.heap.size + 1, 0, none⟩)) (by kernel_rfl) (by kernel_rfl) (by kernel_rfl) hN (fun W hS _ => fa51_0 rfl (by kernel_rfl)) ?_
            refine Each.val 26 (.int .i64 (i : Nat)) (by kernel_rfl) (by kernel_rfl) (by kernel_rfl) hN (fun W hS _ => ld3 rfl (by kernel_rfl) ((HK.out W hS).2.1.1)) ?_
            refine Each.val 27 (.pointer (some ⟨b1, o1 + i * 7, none⟩)) (by kernel_rfl) (by kernel_rfl) (by kernel_rfl) hN (fun W hS _ => ix23 (c := g.pc) rfl (by kernel_rfl) (by kernel_rfl) hi rfl) ?_
            refine Each.val 28 (.pointer (some ⟨b1, o1 + i * 7, none⟩)) (by kernel_rfl) (by kernel_rfl) (by kernel_rfl) hN (fun W hS _ => fa46_0 rfl (by kernel_rfl)) ?_
            refine Each.val 29 (.int .i64 P.left) (by kernel_rfl) (by kernel_rfl) (by kernel_rfl) hN (fun W hS _ => ld3 rfl (by kernel_rfl) ((HK.out W hS).2.2.2)) ?_
            refine Each.val 30 (.agg #[.int .i64 1, .int .u64 0, .int .u64 0, .int .u64 0, .int .u64 0, .int .i64 P.left]) (by kernel_rfl) (by kernel_rfl) (by kernel_rfl) hN (fun W hS _ => by kernel_rfl) ?_
            refine Each.val 31 (.agg #[.int .i64 (i : Nat), .int .u8 b, .slice ka kids.length kc]) (by kernel_rfl) (by kernel_rfl) (by kernel_rfl) hN (fun W hS _ => ld51r rfl (by kernel_rfl) (HK.out W hS).2.1) ?_
            refine Each.call 32 (.bool tb) 52 #[.agg #[.slice g.sa g.sorts.length g.sc, .slice g.pa g.prods.length g.pc, .int .i64 g.start, .slice g.fa g.forbid.length g.fc, .slice g.wa g.follow.length g.wc], .agg #[.int .i64 1, .int .u64 0, .int .u64 0, .int .u64 0, .int .u64 0, .int .i64 P.left], .agg #[.int .i64 (i : Nat), .int .u8 b, .slice ka kids.length kc]] (by kernel_rfl) (by kernel_rfl) (by kernel_rfl) (fun _ _ => by kernel_rfl) (fun W hS => HCF.out W hS) ?_
            refine Each.val 33 (.bool (!tb)) (by kernel_rfl) (by kernel_rfl) (by kernel_rfl) hN (fun W hS _ => ex_notB (s := tb) rfl (by kernel_rfl)) ?_
            refine Each.val 34 (.bool (!tb)) (by kernel_rfl) (by kernel_rfl) (by kernel_rfl) hN (fun _ _ _ => by kernel_rfl) ?_
            exact trivial
          · intro w' hS
            have HB5 := Lib.hid (T4.out.bl.trans (hS.mono T4.out.bl.size))
            clear hS hN HK T4 l0 l1 c0 c1 c2 c3 c4 t0 t1 t2
            cases tb with
            | false =>
              have HE : Hid (q = 163) := Lib.hid (by rw [HR2.out]; rfl)
              go_wp2
              go_ret
              exact ⟨by rw [HE.out]; rfl, HB5.out⟩
            | true =>
              have HE : Hid (q = 0) := Lib.hid (by rw [HR2.out]; rfl)
              go_wp2
              go_ret
              exact ⟨by rw [HE.out]; rfl, HB5.out⟩
end Go.Proofs.Ytiihdbchchnncaa
end
section
namespace Go.Proofs.Ytiihdbchchnncaa
open Go Go.RowKit Go.Vals

theorem ex_eql9 {w : World} {o : Oper} {ρ : Operand → Value} {x y : Operand} {s : ByteArray} (ho : o.op = .binOp .eql 9 x y 9) (hx : ρ x = .string s) (hy : ρ y = .string s) : (execOp ρ o).run Try.prog w = .ok (.value (.bool true)) w := by
  unfold execOp; rw [ho]; simp only [hx, hy]
  have h : (s.toList == s.toList) = true := by simp
  go_simp

set_option maxRecDepth 100000 in
set_option maxHeartbeats 4000000 in
theorem lawTrees_vast (g : GramM) (t : TreeM) (w : World) (hg : AGram w g) (hv : vastB g = true) : Calls Try.prog 5 #[gramV g, treeV t] w fun e w' => e = .returned (.bool true) ∧ Below w.heap.size w w' := by
  have T0 := Lib.hid (TwoG.start w (gramC g) 51 (treeC t))
  have H1 := Lib.hid (vast_any g _ (hg.below T0.out.bl))
  rw [hv] at H1
  have HB0 := Lib.hid T0.out.bl
  clear hg hv T0
  obtain ⟨p, b, ka, kc, kids⟩ := t
  unfold gramV gramC treeV treeC at *
  dsimp only at *
  go_enter Try.func5, Try.ntmps5
  go_wp2_with fail
  with_reducible refine H1.out.mono ?_
  rintro e w1 ⟨rfl, hB1⟩
  have HB1 := Lib.hid (HB0.out.trans (hB1.mono HB0.out.size))
  clear hB1
  go_wp2_with fail
  with_reducible refine (known_any w1).mono ?_
  rintro e w2 ⟨rfl, hB2⟩
  go_wp2
  go_ret
  exact ⟨rfl, HB1.out.trans (hB2.mono HB1.out.size)⟩

set_option maxRecDepth 100000 in
set_option maxHeartbeats 4000000 in
theorem lawTrees_any (g : GramM) (t : TreeM) (w : World) (hg : AGram w g) (ht : TreeIn w t) (ha : ∀ d, ATree w d t) (hv : vastB g = false) : Calls Try.prog 5 #[gramV g, treeV t] w fun e w' => e = .returned (.bool true) ∧ Below w.heap.size w w' := by
  have T0 := Lib.hid (TwoG.start w (gramC g) 51 (treeC t))
  have H1 := Lib.hid (vast_any g _ (hg.below T0.out.bl))
  rw [hv] at H1
  have hf := hg.fit hv
  have HSz := Lib.hid (fun W (hW : Below w.heap.size w W) => size_any 5000 (by omega) t W (TreeIn.below hW t ht))
  rw [show ((5000 : Nat) : Int) = 5000 from rfl] at HSz
  have HKK : Hid (nestB 5000 t = true → tot 5000 t ≤ 5000 → nestB 16384 t = true ∧ TFit 16384 t ∧ (yieldL 16384 t).length ≤ 1099511627776) := Lib.hid fun h1 h2 =>
    ⟨nest_mono _ t h1 _ (by omega), tot_fit 5000 t h1 h2 ha 16384, by have := yield_len 5000 t h1 16384 (by omega); omega⟩
  have HYi := Lib.hid (fun (h1 : nestB 16384 t = true) (h2 : TFit 16384 t) (h3 : (yieldL 16384 t).length ≤ 1099511627776) W (hW : Below w.heap.size w W) => yield_any t W (TreeIn.below hW t ht) h2 h3)
  have HRY := Lib.hid (fun (h1 : nestB 16384 t = true) (h2 : TFit 16384 t) (h3 : (yieldL 16384 t).length ≤ 1099511627776) W (hW : Below w.heap.size w W) => ryield_any 16384 t W (TreeIn.below hW t ht) h2 h1 h3)
  have HCT := Lib.hid (fun (h2 : TFit 16384 t) W (hW : Below w.heap.size w W) => checkTree_any g t W (hg.inn.below hW) hf (TreeIn.below hW t ht) h2)
  have HRC := Lib.hid (fun (h2 : TFit 16384 t) W (hW : Below w.heap.size w W) => rctree_any g t W (hg.inn.below hW) hf (TreeIn.below hW t ht) h2)
  have HSP : Hid (∀ (m : Nat) (W : World) (e : Ending) (w' : World), SizeP m t W e w' → ∃ r : Nat, e = .returned (.int .i64 r) ∧ r ≤ m + 1 ∧ (r ≤ m → nestB m t = true ∧ r = tot m t) ∧ Below W.heap.size W w') := Lib.hid fun m W e w' ⟨r, h1, _, h3, h4, h5⟩ => ⟨r, h1, h3, h4, h5⟩
  clear hg ht ha hv hf
  generalize ctI g t = ct at *
  generalize strOfNums (yieldL 16384 t) = Y at *
  obtain ⟨p, b, ka, kc, kids⟩ := t
  unfold gramV gramC treeV treeC at *
  dsimp only at *
  have hN : ∀ W : World, Below W.heap.size W W := fun W => Below.refl _ W
  go_enter Try.func5, Try.ntmps5
  go_wp2_with fail
  with_reducible refine H1.out.mono ?_
  rintro e w1 ⟨rfl, hB1⟩
  have T1 := Lib.hid (T0.out.below hB1)
  clear hB1 T0 H1
  obtain ⟨c0, c1, c2, c3, c4⟩ := cells5' T1.out.b0
  obtain ⟨t0, t1, t2⟩ := cells3t T1.out.b1
  have l0 := T1.out.b0.lt
  have l1 := T1.out.b1.lt
  have HS1 := Lib.hid (HSz.out w1 T1.out.bl)
  go_wp2_with fail
  with_reducible refine HS1.out.mono ?_
  intro e w2 hSP
  obtain ⟨r, rfl, hr1, hr2, hB2⟩ := HSP.out 5000 w1 e w2 hSP
  have T2 := Lib.hid (T1.out.below hB2)
  have HR2 := Lib.hid hr2
  clear hB2 hSP hr2 T1 HS1 HSz HSP c0 c1 c2 c3 c4 t0 t1 t2 l0 l1
  by_cases hb : 5000 < r
  · have d1 : decide ((5000 : Int) < (r : Int)) = true := by simp; omega
    have HB2 := Lib.hid T2.out.bl
    clear T2 HKK HYi HRY HCT HRC HR2
    go_wp2_with fail
    with_reducible refine (known_any w2).mono ?_
    rintro e w3 ⟨rfl, hB3⟩
    go_wp2
    go_ret
    exact ⟨rfl, HB2.out.trans (hB3.mono HB2.out.size)⟩
  · have d1 : decide ((5000 : Int) < (r : Int)) = false := by simp; omega
    obtain ⟨q1, q2⟩ := HR2.out (by omega)
    obtain ⟨k1, k2, k3⟩ := HKK.out q1 (by omega)
    have Y1 := Lib.hid (HYi.out k1 k2 k3)
    rw [k1] at Y1
    simp only [if_true] at Y1
    have Y2 := Lib.hid (HRY.out k1 k2 k3)
    have C1 := Lib.hid (HCT.out k2)
    have C2 := Lib.hid (HRC.out k2)
    obtain ⟨c0, c1, c2, c3, c4⟩ := cells5' T2.out.b0
    obtain ⟨t0, t1, t2⟩ := cells3t T2.out.b1
    have l0 := T2.out.b0.lt
    have l1 := T2.out.b1.lt
    have Y1W := Lib.hid (Y1.out w2 T2.out.bl)
    clear HKK HYi HRY HCT HRC HR2 q1 q2 k1 k2 k3 hb hr1 Y1
    go_wp2_with fail
    with_reducible refine Y1W.out.mono ?_
    rintro e w3 ⟨rfl, hB3⟩
    have T3 := Lib.hid (T2.out.below hB3)
    clear hB3 T2 Y1W c0 c1 c2 c3 c4 t0 t1 t2 l0 l1
    have HK : Hid (∀ W, Below w3.heap.size w3 W → (W.cell? ⟨w.heap.size, 0, none⟩ = some (.slice g.sa g.sorts.length g.sc) ∧ W.cell? ⟨w.heap.size, 1, none⟩ = some (.slice g.pa g.prods.length g.pc) ∧ W.cell? ⟨w.heap.size, 2, none⟩ = some (.int .i64 g.start) ∧ W.cell? ⟨w.heap.size, 3, none⟩ = some (.slice g.fa g.forbid.length g.fc) ∧ W.cell? ⟨w.heap.size, 4, none⟩ = some (.slice g.wa g.follow.length g.wc)) ∧ (W.cell? ⟨w.heap.size + 1, 0, none⟩ = some (.int .i64 p) ∧ W.cell? ⟨w.heap.size + 1, 1, none⟩ = some (.int .u8 b) ∧ W.cell? ⟨w.heap.size + 1, 2, none⟩ = some (.slice ka kids.length kc))) := Lib.hid (fun W hW =>
      ⟨cells5' (T3.out.b0.below hW T3.out.b0.lt), cells3t (T3.out.b1.below hW T3.out.b1.lt)⟩)
    have D1 := Lib.hid (fun W (hW : Below w3.heap.size w3 W) => C1.out W (T3.out.bl.trans (hW.mono T3.out.bl.size)))
    have D2 := Lib.hid (fun W (hW : Below w3.heap.size w3 W) => C2.out W (T3.out.bl.trans (hW.mono T3.out.bl.size)))
    have D3 := Lib.hid (fun W (hW : Below w3.heap.size w3 W) => Y2.out W (T3.out.bl.trans (hW.mono T3.out.bl.size)))
    have HB3 := Lib.hid T3.out.bl
    clear C1 C2 Y2 T3
    go_wp2_with fail
    refine wp_region_vals0 (N := fun W W' => Below W.heap.size W W') (S := fun W => Below w3.heap.size w3 W)
      [.agg #[.slice g.sa g.sorts.length g.sc, .slice g.pa g.prods.length g.pc, .int .i64 g.start, .slice g.fa g.forbid.length g.fc, .slice g.wa g.follow.length g.wc], .agg #[.int .i64 p, .int .u8 b, .slice ka kids.length kc], .int .i64 ct, .agg #[.slice g.sa g.sorts.length g.sc, .slice g.pa g.prods.length g.pc, .int .i64 g.start, .slice g.fa g.forbid.length g.fc, .slice g.wa g.follow.length g.wc], .agg #[.int .i64 p, .int .u8 b, .slice ka kids.length kc], .int .i64 ct, .bool true, .bool true, .string Y, .agg #[.int .i64 p, .int .u8 b, .slice ka kids.length kc], .string Y, .bool true, .bool true, .bool true, .int .i64 0, .bool true, .bool true, .bool true, .bool true, .bool true, .bool true]
      #[.agg #[.slice g.sa g.sorts.length g.sc, .slice g.pa g.prods.length g.pc, .int .i64 g.start, .slice g.fa g.forbid.length g.fc, .slice g.wa g.follow.length g.wc], .agg #[.int .i64 p, .int .u8 b, .slice ka kids.length kc], .pointer (some ⟨w.heap.size, 0, none⟩), .pointer (some ⟨w.heap.size + 1, 0, none⟩), .bool true, .string Y, .int .i64 0, .agg #[.slice g.sa g.sorts.length g.sc, .slice g.pa g.prods.length g.pc, .int .i64 g.start, .slice g.fa g.forbid.length g.fc, .slice g.wa g.follow.length g.wc], .bool false, .bool false, .agg #[.int .i64 p, .int .u8 b, .slice ka kids.length kc], .int .i64 (r : Nat), .bool false, .bool false, undef, .tuple #[.string Y, .int .i64 0], .agg #[.int .i64 p, .int .u8 b, .slice ka kids.length kc], .tuple #[.string Y, .int .i64 0], .string Y, .int .i64 0, .agg #[.slice g.sa g.sorts.length g.sc, .slice g.pa g.prods.length g.pc, .int .i64 g.start, .slice g.fa g.forbid.length g.fc, .slice g.wa g.follow.length g.wc], .agg #[.int .i64 p, .int .u8 b, .slice ka kids.length kc], .int .i64 ct, .agg #[.slice g.sa g.sorts.length g.sc, .slice g.pa g.prods.length g.pc, .int .i64 g.start, .slice g.fa g.forbid.length g.fc, .slice g.wa g.follow.length g.wc], .agg #[.int .i64 p, .int .u8 b, .slice ka kids.length kc], .int .i64 ct, .bool true, .bool true, .string Y, .agg #[.int .i64 p, .int .u8 b, .slice ka kids.length kc], .string Y, .bool true, .bool true, .bool true, .int .i64 0, .bool true, .bool true, .bool true, .bool true, .bool true]
      rfl (by kernel_rfl) (by kernel_rfl) (by kernel_rfl) hN (Below.refl _ w3).drew (fun W W' h hB => h.trans (hB.mono h.size)) ?_ ?_
    · refine Each.val 20 (.agg #[.slice g.sa g.sorts.length g.sc, .slice g.pa g.prods.length g.pc, .int .i64 g.start, .slice g.fa g.forbid.length g.fc, .slice g.wa g.follow.length g.wc]) (by kernel_rfl) (by kernel_rfl) (by kernel_rfl) hN (fun W hS _ => ld27r rfl (by kernel_rfl) (HK.out W hS).1) ?_
      refine Each.val 21 (.agg #[.int .i64 p, .int .u8 b, .slice ka kids.length kc]) (by kernel_rfl) (by kernel_rfl) (by kernel_rfl) hN (fun W hS _ => ld51r rfl (by kernel_rfl) (HK.out W hS).2) ?_
      refine Each.call 22 (.int .i64 ct) 22 #[.agg #[.slice g.sa g.sorts.length g.sc, .slice g.pa g.prods.length g.pc, .int .i64 g.start, .slice g.fa g.forbid.length g.fc, .slice g.wa g.follow.length g.wc], .agg #[.int .i64 p, .int .u8 b, .slice ka kids.length kc]] (by kernel_rfl) (by kernel_rfl) (by kernel_rfl) (fun _ _ => by kernel_rfl) (fun W hS => D1.out W hS) ?_
      refine Each.val 23 (.agg #[.slice g.sa g.sorts.length g.sc, .slice g.pa g.prods.length g.pc, .int .i64 g.start, .slice g.fa g.forbid.length g.fc, .slice g.wa g.follow.length g.wc]) (by kernel_rfl) (by kernel_rfl) (by kernel_rfl) hN (fun W hS _ => ld27r rfl (by kernel_rfl) (HK.out W hS).1) ?_
      refine Each.val 24 (.agg #[.int .i64 p, .int .u8 b, .slice ka kids.length kc]) (by kernel_rfl) (by kernel_rfl) (by kernel_rfl) hN (fun W hS _ => ld51r rfl (by kernel_rfl) (HK.out W hS).2) ?_
      refine Each.call 25 (.int .i64 ct) 23 #[.agg #[.slice g.sa g.sorts.length g.sc, .slice g.pa g.prods.length g.pc, .int .i64 g.start, .slice g.fa g.forbid.length g.fc, .slice g.wa g.follow.length g.wc], .agg #[.int .i64 p, .int .u8 b, .slice ka kids.length kc]] (by kernel_rfl) (by kernel_rfl) (by kernel_rfl) (fun _ _ => by kernel_rfl) (fun W hS => D2.out W hS) ?_
      refine Each.val 26 (.bool true) (by kernel_rfl) (by kernel_rfl) (by kernel_rfl) hN (fun W hS _ => ex_eql3 rfl (by kernel_rfl) (by kernel_rfl) (beq_self_eq_true ct)) ?_
      refine Each.val 27 (.bool true) (by kernel_rfl) (by kernel_rfl) (by kernel_rfl) hN (fun _ _ _ => by kernel_rfl) ?_
      refine Each.val 28 (.string Y) (by kernel_rfl) (by kernel_rfl) (by kernel_rfl) hN (fun _ _ _ => by kernel_rfl) ?_
      refine Each.val 29 (.agg #[.int .i64 p, .int .u8 b, .slice ka kids.length kc]) (by kernel_rfl) (by kernel_rfl) (by kernel_rfl) hN (fun W hS _ => ld51r rfl (by kernel_rfl) (HK.out W hS).2) ?_
      refine Each.call 30 (.string Y) 24 #[.agg #[.int .i64 p, .int .u8 b, .slice ka kids.length kc]] (by kernel_rfl) (by kernel_rfl) (by kernel_rfl) (fun _ _ => by kernel_rfl) (fun W hS => D3.out W hS) ?_
      refine Each.val 31 (.bool true) (by kernel_rfl) (by kernel_rfl) (by kernel_rfl) hN (fun W hS _ => ex_eql9 (s := Y) rfl (by kernel_rfl) (by kernel_rfl)) ?_
      refine Each.val 32 (.bool true) (by kernel_rfl) (by kernel_rfl) (by kernel_rfl) hN (fun _ _ _ => by kernel_rfl) ?_
      refine Each.val 33 (.bool true) (by kernel_rfl) (by kernel_rfl) (by kernel_rfl) hN (fun _ _ _ => by kernel_rfl) ?_
      refine Each.val 34 (.int .i64 0) (by kernel_rfl) (by kernel_rfl) (by kernel_rfl) hN (fun _ _ _ => by kernel_rfl) ?_
      refine Each.val 35 (.bool true) (by kernel_rfl) (by kernel_rfl) (by kernel_rfl) hN (fun W hS _ => ex_eql32 rfl (by kernel_rfl) (by kernel_rfl) (beq_self_eq_true (0 : Int))) ?_
      refine Each.val 36 (.bool true) (by kernel_rfl) (by kernel_rfl) (by kernel_rfl) hN (fun _ _ _ => by kernel_rfl) ?_
      refine Each.val 37 (.bool true) (by kernel_rfl) (by kernel_rfl) (by kernel_rfl) hN (fun _ _ _ => by kernel_rfl) ?_
      refine Each.call 38 (.bool true) 10 #[] (by kernel_rfl) (by kernel_rfl) (by kernel_rfl) (fun _ _ => by kernel_rfl) (fun W hS => known_any W) ?_
      refine Each.val 39 (.bool true) (by kernel_rfl) (by kernel_rfl) (by kernel_rfl) hN (fun _ _ _ => by kernel_rfl) ?_
      refine Each.val 4 (.bool true) (by kernel_rfl) (by kernel_rfl) (by kernel_rfl) hN (fun _ _ _ => by kernel_rfl) ?_
      exact trivial
    · intro w' hS
      have HB4 := Lib.hid (HB3.out.trans (hS.mono HB3.out.size))
      clear hS hN HK D1 D2 D3 HB3
      go_wp2
      go_ret
      exact ⟨rfl, HB4.out⟩
end Go.Proofs.Ytiihdbchchnncaa
end
