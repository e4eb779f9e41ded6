import Derived.Test.YtodnlcbnbkkanaaGreatDoorCards
import Derived.Test.YtodnlcbnbkkanaaGreatDoorTie
import Derived.WalkKit
import Derived.ProofKit
import Derived.OpenShut
import Derived.LaidMore
import Derived.Deep.DeepHandedRow
import Derived.Lib.LaidTab
import Derived.Lib.LaidU8
import Derived.Below
import Derived.Carry
import Derived.Deep.DeepWitnessRowRef
import Derived.Test.YtodnlcbnbkkanaaGreatDoorM6
import Derived.Test.YtodnlcbnbkkanaaGreatDoorM9
import Derived.Test.YtodnlcbnbkkanaaGreatDoorM12
import Derived.Test.YtodnlcbnbkkanaaGreatDoorM13
section
namespace Go.Proofs.YtodnlcbnbkkanaaGreatDoor
open Go Go.RowKit

theorem CircP.unique {g : GramM} {R R' : List Bool} (h : CircP g R) (h' : CircP g R') : R = R' := by
  obtain ⟨hl, M, L, hM, hL, hR⟩ := h
  obtain ⟨hl', M', L', hM', hL', hR'⟩ := h'
  obtain rfl := hM.unique hM'
  obtain rfl := hL.unique hL'
  refine List.ext_getElem (hl.trans hl'.symm) fun k h1 h2 => ?_
  have a := (hR k (by omega)).trans (hR' k (by omega)).symm
  rw [List.getElem?_eq_getElem h1, List.getElem?_eq_getElem h2] at a
  cases c : R[k] <;> cases d : R'[k] <;> rw [c, d] at a <;> simp at a <;> rfl
theorem useB_false (L L' : List Bool) (x : ProdM) : useB false L x = useB false L' x := rfl
theorem RU_false {g : GramM} {L L' : List Bool} {a b : Nat} (h : RU g false L a b) : RU g false L' a b := by
  induction h with
  | refl => exact .refl
  | step _ e ih =>
    obtain ⟨x, h1, h2, h3, h4⟩ := e
    exact .step ih ⟨x, h1, h2, h3, h4⟩
theorem ReachU.unique {g : GramM} {L L' R R' : List Bool} (h : ReachU g false L R) (h' : ReachU g false L' R') : R = R' := by
  refine List.ext_getElem (h.1.trans h'.1.symm) fun k h1 h2 => ?_
  have a := (h.2 k).trans (Iff.trans ⟨RU_false, RU_false⟩ (h'.2 k).symm)
  rw [List.getElem?_eq_getElem h1, List.getElem?_eq_getElem h2] at a
  cases c : R[k] <;> cases d : R'[k] <;> rw [c, d] at a <;> simp at a <;> rfl
theorem boolsB_same (M : List Bool) : boolsB M M 0 0 = true := by unfold boolsB; simp
theorem AProd.below {w W : World} {p : ProdM} (h : AProd w p) (hB : Below w.heap.size w W) : AProd W p := ⟨h.inn.below hB, h.left, h.role, h.frm, h.cons, h.syms, h.len, h.cap, h.nil⟩
theorem AGram.below {w W : World} {g : GramM} (h : AGram w g) (hB : Below w.heap.size w W) : AGram W g :=
  ⟨h.inn.below hB, h.start, h.names, fun p hp => (h.prods p hp).below hB, h.forb, h.fol, h.sl, h.sc, h.sn, h.pl, h.pc, h.pn, h.fl, h.fc, h.fn, h.wl, h.wc, h.wn⟩
/-- Tables stand. -/
theorem tab_below {w W : World} (h : TabAt 1 Lib.deBruijn64tab w) (hB : Below w.heap.size w W) : TabAt 1 Lib.deBruijn64tab W := KpG.tab (KpG.below hB (lt_of_cell (h 0 (by decide)))) h

set_option maxRecDepth 100000 in
set_option maxHeartbeats 8000000 in
theorem lawSorts_vast (g : GramM) (w : World) (hg : AGram w g) (hT : TabAt 1 Lib.deBruijn64tab w) (hv : vast8 g = true) : Calls Tryz.prog 3 #[gramV g] w fun e w' => e = .returned (.bool true) ∧ Below w.heap.size w w' := by
  have hB1 : Below w.heap.size w (w.alloc (.cells (gramC g) 27)) := (Below.refl _ _).alloc (Nat.le_refl _) _
  have HV := Lib.hid (vast8_any g _ (hg.below hB1))
  rw [hv] at HV
  have HB := Lib.hid hB1
  have HT := Lib.hid hT
  have HWk := Lib.hid (fun W h => works_any W h)
  clear hB1 hg hT hv
  unfold gramV gramC at *
  go_enter Tryz.func3, Tryz.ntmps3
  go_wp2_with fail
  refine HV.out.mono ?_
  rintro e w1 ⟨rfl, hB1⟩
  have HB1 := Lib.hid (HB.out.trans (hB1.mono HB.out.size))
  clear hB1
  go_wp2_with fail
  refine (HWk.out _ (tab_below HT.out HB1.out)).mono ?_
  rintro e w2 ⟨rfl, hB2⟩
  have HB2 := Lib.hid (HB1.out.trans (hB2.mono HB1.out.size))
  clear hB2
  go_wp2
  go_ret
  exact ⟨rfl, HB2.out⟩

set_option maxRecDepth 100000 in
set_option maxHeartbeats 8000000 in
theorem lawSorts_bad (g : GramM) (w : World) (hg : AGram w g) (hT : TabAt 1 Lib.deBruijn64tab w) (hv : vast8 g = false) (hc : checkB g = false) : Calls Tryz.prog 3 #[gramV g] w fun e w' => e = .returned (.bool true) ∧ Below w.heap.size w w' := by
  have hf := hg.fit8 hv
  have HBase := Lib.hid (And.intro hg.inn hf)
  have hB0 : Below w.heap.size w (w.alloc (.cells (gramC g) 27)) := (Below.refl _ _).alloc (Nat.le_refl _) _
  have HV := Lib.hid (vast8_any g _ (hg.below hB0))
  rw [hv] at HV
  have HB0 := Lib.hid hB0
  have HG0 := Lib.hid (Blk.new w 27 (gramC g))
  have HC := Lib.hid (fun W (hW : Below w.heap.size w W) => rcheck_any g W (hg.inn.below hW) hf)
  have HP := Lib.hid (fun W (hW : Below w.heap.size w W) => Productive_any g hf W (hg.inn.below hW))
  have HR := Lib.hid (fun W (hW : Below w.heap.size w W) => Reached_any g hf W (hg.inn.below hW))
  have HN := Lib.hid (fun W (hW : Below w.heap.size w W) => Nullable_any g hf W (hg.inn.below hW))
  have HCi := Lib.hid (fun W (hW : Below w.heap.size w W) => Circular_any g hf W (hg.inn.below hW))
  have HWk := Lib.hid (fun W (hW : Below w.heap.size w W) => works_any W (tab_below hT hW))
  have HBo := Lib.hid (fun (a b : List Bool) (aa ab : Option Addr) (ca cb : Nat) (e n : Int) (W : World) (ha : RowBool W aa a) (hb : RowBool W ab b) (la : a.length ≤ 1048576) (lb : b.length ≤ 1048576) => bools_any a b aa ab ca cb e n W ha hb la lb)
  have HBn : Hid (∀ W : World, Calls Tryz.prog 17 #[.slice none 0 0, .slice none 0 0, .int .i64 160, .int .i64 160] W fun r w' => r = .returned (.bool true) ∧ Below W.heap.size W w') := Lib.hid (fun W => bools_any [] [] none none 0 0 160 160 W (RowOf.nil _) (RowOf.nil _) (by simp) (by simp))
  have Hc := Lib.hid hc
  rw [hc] at HC

  unfold TellPost at HP HR HN HCi
  obtain ⟨n, hn⟩ : ∃ n, n = g.sorts.length := ⟨_, rfl⟩
  obtain ⟨np, hnp⟩ : ∃ n, n = g.prods.length := ⟨_, rfl⟩
  have N1 := Lib.hid hn
  clear hB0 hg hT hv hc hf
  unfold gramV gramC errI at *
  rw [← hn, ← hnp] at HV HB0 HG0 HC HP HR HN HCi ⊢
  clear hn hnp
  go_enter Tryz.func3, Tryz.ntmps3
  go_wp2_with fail
  refine HV.out.mono ?_
  rintro e w1 ⟨rfl, hB1⟩
  have HG1 := Lib.hid (HG0.out.below hB1 HG0.out.lt)
  have HB1 := Lib.hid (HB0.out.trans (hB1.mono HB0.out.size))
  obtain ⟨c0, c1, c2, c3, c4⟩ := cells5s HG1.out
  have l1 := HG1.out.lt
  clear hB1 HG0 HB0 HV
  go_wp2_with fail
  with_reducible refine (HC.out _ HB1.out).mono ?_
  rintro e w2 ⟨rfl, hB2⟩
  have HG2 := Lib.hid (HG1.out.below hB2 HG1.out.lt)
  have HB2 := Lib.hid (HB1.out.trans (hB2.mono HB1.out.size))
  obtain ⟨c0, c1, c2, c3, c4⟩ := cells5s HG2.out
  have l2 := HG2.out.lt
  clear hB2 HG1 HB1 HC l1

  go_wp2_with fail
  with_reducible refine (HP.out _ HB2.out).mono ?_
  rintro e w3 ⟨hB, ⟨_, rfl⟩ | ⟨hx, _⟩⟩
  rotate_left
  · exact absurd (Hc.out.symm.trans hx) (by decide)
  have HG3 := Lib.hid (HG2.out.below hB HG2.out.lt)
  have HB3 := Lib.hid (HB2.out.trans (hB.mono HB2.out.size))
  obtain ⟨c0, c1, c2, c3, c4⟩ := cells5s HG3.out
  have l3 := HG3.out.lt
  clear hB HG2 HB2 HP l2
  go_wp2_with fail
  with_reducible refine (HR.out _ HB3.out).mono ?_
  rintro e w4 ⟨hB, ⟨_, rfl⟩ | ⟨hx, _⟩⟩
  rotate_left
  · exact absurd (Hc.out.symm.trans hx) (by decide)
  have HG4 := Lib.hid (HG3.out.below hB HG3.out.lt)
  have HB4 := Lib.hid (HB3.out.trans (hB.mono HB3.out.size))
  obtain ⟨c0, c1, c2, c3, c4⟩ := cells5s HG4.out
  have l4 := HG4.out.lt
  clear hB HG3 HB3 HR l3
  go_wp2_with fail
  with_reducible refine (HN.out _ HB4.out).mono ?_
  rintro e w5 ⟨hB, ⟨_, rfl⟩ | ⟨hx, _⟩⟩
  rotate_left
  · exact absurd (Hc.out.symm.trans hx) (by decide)
  have HG5 := Lib.hid (HG4.out.below hB HG4.out.lt)
  have HB5 := Lib.hid (HB4.out.trans (hB.mono HB4.out.size))
  obtain ⟨c0, c1, c2, c3, c4⟩ := cells5s HG5.out
  have l5 := HG5.out.lt
  clear hB HG4 HB4 HN l4
  go_wp2_with fail
  with_reducible refine (HCi.out _ HB5.out).mono ?_
  rintro e w6 ⟨hB, ⟨_, rfl⟩ | ⟨hx, _⟩⟩
  rotate_left
  · exact absurd (Hc.out.symm.trans hx) (by decide)
  have HG6 := Lib.hid (HG5.out.below hB HG5.out.lt)
  have HB6 := Lib.hid (HB5.out.trans (hB.mono HB5.out.size))
  obtain ⟨c0, c1, c2, c3, c4⟩ := cells5s HG6.out
  have l6 := HG6.out.lt
  clear hB HG5 HB5 HCi l5
  go_wp2_with fail
  with_reducible refine (HBn.out _).mono ?_
  rintro e w7 ⟨rfl, hB⟩
  have HB7 := Lib.hid (HB6.out.trans (hB.mono HB6.out.size))
  clear hB HB6
  go_wp2_with fail
  with_reducible refine (HBn.out _).mono ?_
  rintro e w8 ⟨rfl, hB⟩
  have HB8 := Lib.hid (HB7.out.trans (hB.mono HB7.out.size))
  clear hB HB7
  go_wp2_with fail
  with_reducible refine (HBn.out _).mono ?_
  rintro e w9 ⟨rfl, hB⟩
  have HB9 := Lib.hid (HB8.out.trans (hB.mono HB8.out.size))
  clear hB HB8
  go_wp2_with fail
  with_reducible refine (HBn.out _).mono ?_
  rintro e w10 ⟨rfl, hB⟩
  have HB10 := Lib.hid (HB9.out.trans (hB.mono HB9.out.size))
  clear hB HB9
  go_wp2_with fail
  with_reducible refine (HWk.out _ HB10.out).mono ?_
  rintro e w11 ⟨rfl, hB⟩
  have HBz := Lib.hid (HB10.out.trans (hB.mono HB10.out.size))
  clear hB
  go_wp2
  go_ret
  exact ⟨rfl, HBz.out⟩

set_option maxRecDepth 100000 in
set_option maxHeartbeats 8000000 in
theorem lawSorts_good (g : GramM) (w : World) (hg : AGram w g) (hT : TabAt 1 Lib.deBruijn64tab w) (hv : vast8 g = false) (hc : checkB g = true) : Calls Tryz.prog 3 #[gramV g] w fun e w' => e = .returned (.bool true) ∧ Below w.heap.size w w' := by
  have hf := hg.fit8 hv
  have HBase := Lib.hid (And.intro hg.inn hf)
  have hB0 : Below w.heap.size w (w.alloc (.cells (gramC g) 27)) := (Below.refl _ _).alloc (Nat.le_refl _) _
  have HV := Lib.hid (vast8_any g _ (hg.below hB0))
  rw [hv] at HV
  have HB0 := Lib.hid hB0
  have HG0 := Lib.hid (Blk.new w 27 (gramC g))
  have HC := Lib.hid (fun W (hW : Below w.heap.size w W) => rcheck_any g W (hg.inn.below hW) hf)
  have HP := Lib.hid (fun W (hW : Below w.heap.size w W) => Productive_any g hf W (hg.inn.below hW))
  have HR := Lib.hid (fun W (hW : Below w.heap.size w W) => Reached_any g hf W (hg.inn.below hW))
  have HN := Lib.hid (fun W (hW : Below w.heap.size w W) => Nullable_any g hf W (hg.inn.below hW))
  have HCi := Lib.hid (fun W (hW : Below w.heap.size w W) => Circular_any g hf W (hg.inn.below hW))
  have HWk := Lib.hid (fun W (hW : Below w.heap.size w W) => works_any W (tab_below hT hW))
  have HBo := Lib.hid (fun (a b : List Bool) (aa ab : Option Addr) (ca cb : Nat) (e n : Int) (W : World) (ha : RowBool W aa a) (hb : RowBool W ab b) (la : a.length ≤ 1048576) (lb : b.length ≤ 1048576) => bools_any a b aa ab ca cb e n W ha hb la lb)
  have HBn : Hid (∀ W : World, Calls Tryz.prog 17 #[.slice none 0 0, .slice none 0 0, .int .i64 160, .int .i64 160] W fun r w' => r = .returned (.bool true) ∧ Below W.heap.size W w') := Lib.hid (fun W => bools_any [] [] none none 0 0 160 160 W (RowOf.nil _) (RowOf.nil _) (by simp) (by simp))
  have Hc := Lib.hid hc
  rw [hc] at HC

  have hm := mayB_of hc
  have hs := maySet_of hc
  have HP' := Lib.hid (fun W (hW : Below w.heap.size w W) => rproductive_any g hm hf.fit W (hg.inn.below hW))
  have HR' := Lib.hid (fun W (hW : Below w.heap.size w W) => rreached_any g hm hf.fit false W (hg.inn.below hW))
  have HN' := Lib.hid (fun W (hW : Below w.heap.size w W) => rnullable_any g hm hs W (hg.inn.below hW))
  have HCi' := Lib.hid (fun W (hW : Below w.heap.size w W) => rcircular_any g hm hs W (hg.inn.below hW))
  have Hn1 := Lib.hid hm.sorts2
  unfold MarksPost at HN' HCi'
  clear hm hs
  unfold TellPost at HP HR HN HCi
  obtain ⟨n, hn⟩ : ∃ n, n = g.sorts.length := ⟨_, rfl⟩
  obtain ⟨np, hnp⟩ : ∃ n, n = g.prods.length := ⟨_, rfl⟩
  have N1 := Lib.hid hn
  clear hB0 hg hT hv hc hf
  unfold gramV gramC errI at *
  rw [← hn, ← hnp] at HV HB0 HG0 HC HP HR HN HCi HP' HR' HN' HCi' ⊢
  clear hn hnp
  go_enter Tryz.func3, Tryz.ntmps3
  go_wp2_with fail
  refine HV.out.mono ?_
  rintro e w1 ⟨rfl, hB1⟩
  have HG1 := Lib.hid (HG0.out.below hB1 HG0.out.lt)
  have HB1 := Lib.hid (HB0.out.trans (hB1.mono HB0.out.size))
  obtain ⟨c0, c1, c2, c3, c4⟩ := cells5s HG1.out
  have l1 := HG1.out.lt
  clear hB1 HG0 HB0 HV
  go_wp2_with fail
  with_reducible refine (HC.out _ HB1.out).mono ?_
  rintro e w2 ⟨rfl, hB2⟩
  have HG2 := Lib.hid (HG1.out.below hB2 HG1.out.lt)
  have HB2 := Lib.hid (HB1.out.trans (hB2.mono HB1.out.size))
  obtain ⟨c0, c1, c2, c3, c4⟩ := cells5s HG2.out
  have l2 := HG2.out.lt
  clear hB2 HG1 HB1 HC l1
  go_wp2_with fail
  with_reducible refine (HP.out _ HB2.out).mono ?_
  rintro e w3 ⟨hB, ⟨hx, _⟩ | ⟨_, M0, B0, hM, rfl, _, hk⟩⟩
  · exact absurd (Hc.out.symm.trans hx) (by decide)
  have HM0 := Lib.hid hM
  have HG3 := Lib.hid (HG2.out.below hB HG2.out.lt)
  have HK0_3 := Lib.hid hk
  have HB3 := Lib.hid (HB2.out.trans (hB.mono HB2.out.size))
  obtain ⟨c0, c1, c2, c3, c4⟩ := cells5s HG3.out
  have l3 := HG3.out.lt
  clear hB hM hk HG2 HB2 HP l2 
  go_wp2_with fail
  with_reducible refine (HR.out _ HB3.out).mono ?_
  rintro e w4 ⟨hB, ⟨hx, _⟩ | ⟨_, M1, B1, hM, rfl, _, hk⟩⟩
  · exact absurd (Hc.out.symm.trans hx) (by decide)
  have HM1 := Lib.hid hM
  have HG4 := Lib.hid (HG3.out.below hB HG3.out.lt)
  have HK0_4 := Lib.hid (HK0_3.out.below hB HK0_3.out.lt)
  have HK1_4 := Lib.hid hk
  have HB4 := Lib.hid (HB3.out.trans (hB.mono HB3.out.size))
  obtain ⟨c0, c1, c2, c3, c4⟩ := cells5s HG4.out
  have l4 := HG4.out.lt
  clear hB hM hk HG3 HB3 HR l3 HK0_3
  go_wp2_with fail
  with_reducible refine (HN.out _ HB4.out).mono ?_
  rintro e w5 ⟨hB, ⟨hx, _⟩ | ⟨_, M2, B2, hM, rfl, _, hk⟩⟩
  · exact absurd (Hc.out.symm.trans hx) (by decide)
  have HM2 := Lib.hid hM
  have HG5 := Lib.hid (HG4.out.below hB HG4.out.lt)
  have HK0_5 := Lib.hid (HK0_4.out.below hB HK0_4.out.lt)
  have HK1_5 := Lib.hid (HK1_4.out.below hB HK1_4.out.lt)
  have HK2_5 := Lib.hid hk
  have HB5 := Lib.hid (HB4.out.trans (hB.mono HB4.out.size))
  obtain ⟨c0, c1, c2, c3, c4⟩ := cells5s HG5.out
  have l5 := HG5.out.lt
  clear hB hM hk HG4 HB4 HN l4 HK0_4 HK1_4
  go_wp2_with fail
  with_reducible refine (HCi.out _ HB5.out).mono ?_
  rintro e w6 ⟨hB, ⟨hx, _⟩ | ⟨_, M3, B3, hM, rfl, _, hk⟩⟩
  · exact absurd (Hc.out.symm.trans hx) (by decide)
  have HM3 := Lib.hid hM
  have HG6 := Lib.hid (HG5.out.below hB HG5.out.lt)
  have HK0_6 := Lib.hid (HK0_5.out.below hB HK0_5.out.lt)
  have HK1_6 := Lib.hid (HK1_5.out.below hB HK1_5.out.lt)
  have HK2_6 := Lib.hid (HK2_5.out.below hB HK2_5.out.lt)
  have HK3_6 := Lib.hid hk
  have HB6 := Lib.hid (HB5.out.trans (hB.mono HB5.out.size))
  obtain ⟨c0, c1, c2, c3, c4⟩ := cells5s HG6.out
  have l6 := HG6.out.lt
  clear hB hM hk HG5 HB5 HCi l5 HK0_5 HK1_5 HK2_5
  skip
  go_wp2_with fail
  with_reducible refine (HP'.out _ HB6.out).mono ?_
  rintro e w7 ⟨R0, hR, rfl, hk, hB⟩
  have hE : R0 = M0 := Live.unique hR HM0.out
  rw [hE] at hk ⊢
  have HG7 := Lib.hid (HG6.out.below hB HG6.out.lt)
  have HK0_7 := Lib.hid (HK0_6.out.below hB HK0_6.out.lt)
  have HK1_7 := Lib.hid (HK1_6.out.below hB HK1_6.out.lt)
  have HK2_7 := Lib.hid (HK2_6.out.below hB HK2_6.out.lt)
  have HK3_7 := Lib.hid (HK3_6.out.below hB HK3_6.out.lt)
  have HB7 := Lib.hid (HB6.out.trans (hB.mono HB6.out.size))
  obtain ⟨q, hq⟩ : ∃ q, q = M0.length := ⟨_, rfl⟩
  have hql : M0.length ≤ 1048576 := by rw [HM0.out.1]; have := Hn1.out; omega
  have HBx := Lib.hid (HBo.out M0 M0 _ _ M0.length M0.length 0 0 w7 HK0_7.out.row hk.row hql hql)
  rw [boolsB_same] at HBx
  clear hB hR hk hE hq hql HG6 HB6 HP' c0 c1 c2 c3 c4 l6 HK0_6 HK1_6 HK2_6 HK3_6
  go_wp2_with fail
  with_reducible refine HBx.out.mono ?_
  rintro e w8 ⟨rfl, hB⟩
  have HG8 := Lib.hid (HG7.out.below hB HG7.out.lt)
  have HK0_8 := Lib.hid (HK0_7.out.below hB HK0_7.out.lt)
  have HK1_8 := Lib.hid (HK1_7.out.below hB HK1_7.out.lt)
  have HK2_8 := Lib.hid (HK2_7.out.below hB HK2_7.out.lt)
  have HK3_8 := Lib.hid (HK3_7.out.below hB HK3_7.out.lt)
  have HB8 := Lib.hid (HB7.out.trans (hB.mono HB7.out.size))
  obtain ⟨c0, c1, c2, c3, c4⟩ := cells5s HG8.out
  have l8 := HG8.out.lt
  clear hB HG7 HB7 HBx HK0_7 HK1_7 HK2_7 HK3_7
  go_wp2_with fail
  with_reducible refine (HR'.out _ HB8.out).mono ?_
  rintro e w9 ⟨Lx, R1, _, hR, rfl, hk, hB⟩
  have hE : R1 = M1 := ReachU.unique hR HM1.out
  rw [hE] at hk ⊢
  have HG9 := Lib.hid (HG8.out.below hB HG8.out.lt)
  have HK0_9 := Lib.hid (HK0_8.out.below hB HK0_8.out.lt)
  have HK1_9 := Lib.hid (HK1_8.out.below hB HK1_8.out.lt)
  have HK2_9 := Lib.hid (HK2_8.out.below hB HK2_8.out.lt)
  have HK3_9 := Lib.hid (HK3_8.out.below hB HK3_8.out.lt)
  have HB9 := Lib.hid (HB8.out.trans (hB.mono HB8.out.size))
  obtain ⟨q, hq⟩ : ∃ q, q = M1.length := ⟨_, rfl⟩
  have hql : M1.length ≤ 1048576 := by rw [HM1.out.1]; have := Hn1.out; omega
  have HBx := Lib.hid (HBo.out M1 M1 _ _ M1.length M1.length 0 0 w9 HK1_9.out.row hk.row hql hql)
  rw [boolsB_same] at HBx
  clear hB hR hk hE hq hql HG8 HB8 HR' c0 c1 c2 c3 c4 l8 HK0_8 HK1_8 HK2_8 HK3_8
  go_wp2_with fail
  with_reducible refine HBx.out.mono ?_
  rintro e w10 ⟨rfl, hB⟩
  have HG10 := Lib.hid (HG9.out.below hB HG9.out.lt)
  have HK0_10 := Lib.hid (HK0_9.out.below hB HK0_9.out.lt)
  have HK1_10 := Lib.hid (HK1_9.out.below hB HK1_9.out.lt)
  have HK2_10 := Lib.hid (HK2_9.out.below hB HK2_9.out.lt)
  have HK3_10 := Lib.hid (HK3_9.out.below hB HK3_9.out.lt)
  have HB10 := Lib.hid (HB9.out.trans (hB.mono HB9.out.size))
  obtain ⟨c0, c1, c2, c3, c4⟩ := cells5s HG10.out
  have l10 := HG10.out.lt
  clear hB HG9 HB9 HBx HK0_9 HK1_9 HK2_9 HK3_9
  go_wp2_with fail
  with_reducible refine (HN'.out _ HB10.out).mono ?_
  rintro e w11 ⟨R2, Bx2, hR, rfl, _, hk, hB⟩
  have hE : R2 = M2 := NullP.unique hR HM2.out
  rw [hE] at hk ⊢
  have HG11 := Lib.hid (HG10.out.below hB HG10.out.lt)
  have HK0_11 := Lib.hid (HK0_10.out.below hB HK0_10.out.lt)
  have HK1_11 := Lib.hid (HK1_10.out.below hB HK1_10.out.lt)
  have HK2_11 := Lib.hid (HK2_10.out.below hB HK2_10.out.lt)
  have HK3_11 := Lib.hid (HK3_10.out.below hB HK3_10.out.lt)
  have HB11 := Lib.hid (HB10.out.trans (hB.mono HB10.out.size))
  obtain ⟨q, hq⟩ : ∃ q, q = M2.length := ⟨_, rfl⟩
  have hql : M2.length ≤ 1048576 := by rw [HM2.out.1]; have := Hn1.out; omega
  have HBx := Lib.hid (HBo.out M2 M2 _ _ M2.length M2.length 0 0 w11 HK2_11.out.row hk.row hql hql)
  rw [boolsB_same] at HBx
  clear hB hR hk hE hq hql HG10 HB10 HN' c0 c1 c2 c3 c4 l10 HK0_10 HK1_10 HK2_10 HK3_10
  go_wp2_with fail
  with_reducible refine HBx.out.mono ?_
  rintro e w12 ⟨rfl, hB⟩
  have HG12 := Lib.hid (HG11.out.below hB HG11.out.lt)
  have HK0_12 := Lib.hid (HK0_11.out.below hB HK0_11.out.lt)
  have HK1_12 := Lib.hid (HK1_11.out.below hB HK1_11.out.lt)
  have HK2_12 := Lib.hid (HK2_11.out.below hB HK2_11.out.lt)
  have HK3_12 := Lib.hid (HK3_11.out.below hB HK3_11.out.lt)
  have HB12 := Lib.hid (HB11.out.trans (hB.mono HB11.out.size))
  obtain ⟨c0, c1, c2, c3, c4⟩ := cells5s HG12.out
  have l12 := HG12.out.lt
  clear hB HG11 HB11 HBx HK0_11 HK1_11 HK2_11 HK3_11
  go_wp2_with fail
  with_reducible refine (HCi'.out _ HB12.out).mono ?_
  rintro e w13 ⟨R3, Bx3, hR, rfl, _, hk, hB⟩
  have hE : R3 = M3 := CircP.unique hR HM3.out
  rw [hE] at hk ⊢
  have HG13 := Lib.hid (HG12.out.below hB HG12.out.lt)
  have HK0_13 := Lib.hid (HK0_12.out.below hB HK0_12.out.lt)
  have HK1_13 := Lib.hid (HK1_12.out.below hB HK1_12.out.lt)
  have HK2_13 := Lib.hid (HK2_12.out.below hB HK2_12.out.lt)
  have HK3_13 := Lib.hid (HK3_12.out.below hB HK3_12.out.lt)
  have HB13 := Lib.hid (HB12.out.trans (hB.mono HB12.out.size))
  obtain ⟨q, hq⟩ : ∃ q, q = M3.length := ⟨_, rfl⟩
  have hql : M3.length ≤ 1048576 := by rw [HM3.out.1]; have := Hn1.out; omega
  have HBx := Lib.hid (HBo.out M3 M3 _ _ M3.length M3.length 0 0 w13 HK3_13.out.row hk.row hql hql)
  rw [boolsB_same] at HBx
  clear hB hR hk hE hq hql HG12 HB12 HCi' c0 c1 c2 c3 c4 l12 HK0_12 HK1_12 HK2_12 HK3_12
  go_wp2_with fail
  with_reducible refine HBx.out.mono ?_
  rintro e w14 ⟨rfl, hB⟩
  have HG14 := Lib.hid (HG13.out.below hB HG13.out.lt)
  have HK0_14 := Lib.hid (HK0_13.out.below hB HK0_13.out.lt)
  have HK1_14 := Lib.hid (HK1_13.out.below hB HK1_13.out.lt)
  have HK2_14 := Lib.hid (HK2_13.out.below hB HK2_13.out.lt)
  have HK3_14 := Lib.hid (HK3_13.out.below hB HK3_13.out.lt)
  have HB14 := Lib.hid (HB13.out.trans (hB.mono HB13.out.size))
  obtain ⟨c0, c1, c2, c3, c4⟩ := cells5s HG14.out
  have l14 := HG14.out.lt
  clear hB HG13 HB13 HBx HK0_13 HK1_13 HK2_13 HK3_13
  go_wp2_with fail
  with_reducible refine (HWk.out _ HB14.out).mono ?_
  rintro e w15 ⟨rfl, hB⟩
  have HBz := Lib.hid (HB14.out.trans (hB.mono HB14.out.size))
  clear hB
  go_wp2
  go_ret
  exact ⟨rfl, HBz.out⟩
/-- The law FactsSorts. -/
theorem lawSorts_any (g : GramM) (w : World) (hg : AGram w g) (hT : TabAt 1 Lib.deBruijn64tab w) : Calls Tryz.prog 3 #[gramV g] w fun e w' => e = .returned (.bool true) ∧ Below w.heap.size w w' := by
  cases hv : vast8 g with
  | true => exact lawSorts_vast g w hg hT hv
  | false =>
    cases hc : checkB g with
    | false => exact lawSorts_bad g w hg hT hv hc
    | true => exact lawSorts_good g w hg hT hv hc
end Go.Proofs.YtodnlcbnbkkanaaGreatDoor
end
section
namespace Go.Proofs.YtodnlcbnbkkanaaGreatDoor
open Go.ChangeShapes Go.WideShapes Go.ChangeAt Go.RowKit

theorem gTab : Tryz.prog.globalNamed "math/bits.deBruijn64tab" = some 1 := by kernel_rfl
theorem gTabType : (Tryz.prog.globals[1]?).map (·.type) = some 222 := by kernel_rfl
theorem cellsTab : Tryz.prog.cellsOf 222 = 64 := by kernel_rfl
theorem cells5b : Tryz.prog.cellsOf 5 = 1 := by kernel_rfl

theorem tab_datum {H : Type} : (Rows.laid_math_bits_deBruijn64tab : DataW H) = Lib.tabData .u8 (Lib.deBruijn64tab.map fun n : Nat => (n : Int)) := rfl

theorem own : ownKnob Tryz.prog.godebug = none := by kernel_rfl

set_option maxRecDepth 100000 in
/-- What every row's list gives: what the program's variable holds. -/
theorem glob_of_laid {W : World} (h : laidMetH Tryz.prog Rows.factsSortsRow.laid W) : TabAt 1 Lib.deBruijn64tab W := by
  have hp : laidMet Tryz.prog Rows.factsSortsRow.laid W := h
  obtain ⟨g, t, cs, fuel, p, hg, ht, hv, hd⟩ := Lib.laidMet.reads hp (.head _)
  obtain rfl := Option.some.inj (gTab.symm.trans hg)
  obtain rfl := Option.some.inj (gTabType.symm.trans ht)
  rw [tab_datum] at hd
  have hcs := Lib.cells_of_tab Tryz.underlying222 Tryz.underlying5 cells5b cellsTab hd
  intro j hj
  have := World.var?_cell hg hv j
  rw [this]
  have e : cs[j]? = cs.toList[j]? := by simp
  rw [e, hcs]
  simp [hj]

/-- The world of a witness: what the variables hold behind the program's start. -/
theorem door_met (os : Os) (args : Array Value) : laidMetH Tryz.prog Rows.factsSortsRow.laid ((World.doorLaid Tryz.prog 65 os).forCall (fun _ _ => 0) ⟨#[], args, []⟩).memory :=
  laidMetH_of_parts3 (fuel := 8) (laidMet_of_run' 8 (by kernel_rfl) (by kernel_rfl)) (by kernel_rfl) (by kernel_rfl)
end Go.Proofs.YtodnlcbnbkkanaaGreatDoor
end
