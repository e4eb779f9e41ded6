import Derived.BigQuiet
import Derived.Deep.QuietTactic
import Derived.Test.YtodnlcbnbkkanaaGreatDoorS11
import Derived.Test.YtodnlcbnbkkanaaGreatDoorS12
import Derived.Test.YtodnlcbnbkkanaaGreatDoorS19
section
namespace Go.Proofs.YtodnlcbnbkkanaaGreatDoor
open Go Go.RowKit

theorem row_marks {w : World} {B : Nat} {F : List Bool} {cs : Array Value} (h : Blk w B 4 cs) (hat : ∀ (k : Nat) (s : Bool), F[k]? = some s → cs[k]? = some (.bool s)) : RowBool w (some ⟨B, 0, none⟩) F := fun i x hx => by
 refine ⟨B, 0, rfl, h.lt, fun j v hj => ?_, trivial⟩
 have hj0 : j = 0 := by
  have := (Array.getElem?_eq_some_iff.1 hj).1
  simp [boolC] at this; exact this
 subst hj0
 simp [boolC] at hj
 subst hj
 rw [Nat.mul_one, Nat.zero_add, Nat.add_zero, h.cell i, hat i x hx]
theorem set_cells_at {W : World} {B k : Nat} {cs : Array Value} {s : BS} (h : Blk W B 47 cs) (hS : SetAt cs (k * 4) s) : W.cell? ⟨B, k * 4, none⟩ = some (.int .u64 (wdI s 0)) ∧ W.cell? ⟨B, k * 4 + 1, none⟩ = some (.int .u64 (wdI s 1)) ∧ W.cell? ⟨B, k * 4 + 2, none⟩ = some (.int .u64 (wdI s 2)) ∧ W.cell? ⟨B, k * 4 + 3, none⟩ = some (.int .u64 (wdI s 3)) := by
 have c0 := (h.cell (k * 4 + 0)).trans (set_cell hS (j := 0) (by decide))
 rw [Nat.add_zero] at c0
 exact ⟨c0, (h.cell (k * 4 + 1)).trans (set_cell hS (j := 1) (by decide)), (h.cell (k * 4 + 2)).trans (set_cell hS (j := 2) (by decide)), (h.cell (k * 4 + 3)).trans (set_cell hS (j := 3) (by decide))⟩

set_option maxRecDepth 100000 in
set_option maxHeartbeats 8000000 in
theorem lawSets_vast (g : GramM) (w : World) (hg : AGram w g) (hT : TabAt 1 Lib.deBruijn64tab w) (hv : vast8 g = true) : Calls Tryz.prog 4 #[gramV g] w fun e w' => e = .returned (.bool true) ∧ Below w.heap.size w w' := by
 have hB1 : Below w.heap.size w (w.alloc (.cells (gramC g) 27)) := (Below.refl _ _).alloc (Nat.le_refl _) _
 have HV := Lib.hid (vast8_any g _ (hg.below hB1))
 rw [hv] at HV
 have HB := Lib.hid hB1
 have HT := Lib.hid hT
 have HWk := Lib.hid (fun W h => works_any W h)
 clear hB1 hg hT hv
 unfold gramV gramC at *
 go_enter Tryz.func4, Tryz.ntmps4
 go_wp2_with fail
 refine HV.out.mono ?_
 rintro e w1 ⟨rfl, hB1⟩
 have HB1 := Lib.hid (HB.out.trans (hB1.mono HB.out.size))
 clear hB1
 go_wp2_with fail
 refine (HWk.out _ (tab_below HT.out HB1.out)).mono ?_
 rintro e w2 ⟨rfl, hB2⟩
 have HB2 := Lib.hid (HB1.out.trans (hB2.mono HB1.out.size))
 clear hB2
 go_wp2
 go_ret
 exact ⟨rfl, HB2.out⟩

set_option maxRecDepth 100000 in
set_option maxHeartbeats 8000000 in
theorem lawSets_bad (g : GramM) (w : World) (hg : AGram w g) (hT : TabAt 1 Lib.deBruijn64tab w) (hv : vast8 g = false) (hc : checkB g = false) : Calls Tryz.prog 4 #[gramV g] w fun e w' => e = .returned (.bool true) ∧ Below w.heap.size w w' := by
 have hf := hg.fit8 hv
 have HBase := Lib.hid (And.intro hg.inn hf)
 have hB0 : Below w.heap.size w (w.alloc (.cells (gramC g) 27)) := (Below.refl _ _).alloc (Nat.le_refl _) _
 have HV := Lib.hid (vast8_any g _ (hg.below hB0))
 rw [hv] at HV
 have HB0 := Lib.hid hB0
 have HG0 := Lib.hid (Blk.new w 27 (gramC g))
 have HC := Lib.hid (fun W (hW : Below w.heap.size w W) => rcheck_any g W (hg.inn.below hW) hf)
 have HP := Lib.hid (fun W (hW : Below w.heap.size w W) => First_any g hf W (hg.inn.below hW))
 have HR := Lib.hid (fun W (hW : Below w.heap.size w W) => Follow_any g hf W (hg.inn.below hW))
 have HN := Lib.hid (fun W (hW : Below w.heap.size w W) => Ends_any g hf W (hg.inn.below hW))
 have HWk := Lib.hid (fun W (hW : Below w.heap.size w W) => works_any W (tab_below hT hW))
 have HBo := Lib.hid (fun (a b : List Bool) (aa ab : Option Addr) (ca cb : Nat) (e n : Int) (W : World) (ha : RowBool W aa a) (hb : RowBool W ab b) (la : a.length ≤ 1048576) (lb : b.length ≤ 1048576) => bools_any a b aa ab ca cb e n W ha hb la lb)
 have HBn : Hid (∀ W : World, Calls Tryz.prog 17 #[.slice none 0 0, .slice none 0 0, .int .i64 160, .int .i64 160] W fun r w' => r = .returned (.bool true) ∧ Below W.heap.size W w') := Lib.hid (fun W => bools_any [] [] none none 0 0 160 160 W (RowOf.nil _) (RowOf.nil _) (by simp) (by simp))
 have HEr : Hid (∀ (m : Int) (W : World), Calls Tryz.prog 25 #[.int .i64 m] W fun e w' => e = .returned (.int .i64 m) ∧ W = w') := Lib.hid (fun m W => errno_any m W)
 have Hc := Lib.hid hc
 rw [hc] at HC

 unfold TellSets at HP HR
 unfold TellEnds at HN
 obtain ⟨n, hn⟩ : ∃ n, n = g.sorts.length := ⟨_, rfl⟩
 obtain ⟨np, hnp⟩ : ∃ n, n = g.prods.length := ⟨_, rfl⟩
 have N1 := Lib.hid hn
 clear hB0 hg hT hv hc hf
 unfold gramV gramC errI at *
 rw [← hn, ← hnp] at HV HB0 HG0 HC HP HR HN ⊢
 clear hn hnp
 go_enter Tryz.func4, Tryz.ntmps4
 go_wp2_with fail
 refine HV.out.mono ?_
 rintro e w1 ⟨rfl, hB1⟩
 have HG1 := Lib.hid (HG0.out.below hB1 HG0.out.lt)
 have HB1 := Lib.hid (HB0.out.trans (hB1.mono HB0.out.size))
 obtain ⟨c0, c1, c2, c3, c4⟩ := cells5s HG1.out
 have l1 := HG1.out.lt
 clear hB1 HG0 HB0 HV
 go_wp2_with fail
 with_reducible refine (HC.out _ HB1.out).mono ?_
 rintro e w2 ⟨rfl, hB2⟩
 have HG2 := Lib.hid (HG1.out.below hB2 HG1.out.lt)
 have HB2 := Lib.hid (HB1.out.trans (hB2.mono HB1.out.size))
 obtain ⟨c0, c1, c2, c3, c4⟩ := cells5s HG2.out
 have l2 := HG2.out.lt
 clear hB2 HG1 HB1 HC l1

 go_wp2_with fail
 with_reducible refine (HP.out _ HB2.out).mono ?_
 rintro e w3 ⟨hB, ⟨_, rfl⟩ | ⟨hx, _⟩⟩
 rotate_left
 ·exact absurd (Hc.out.symm.trans hx) (by decide)
 have HG3 := Lib.hid (HG2.out.below hB HG2.out.lt)
 have HB3 := Lib.hid (HB2.out.trans (hB.mono HB2.out.size))
 obtain ⟨c0, c1, c2, c3, c4⟩ := cells5s HG3.out
 have l3 := HG3.out.lt
 clear hB HG2 HB2 HP l2
 go_wp2_with fail
 with_reducible refine (HR.out _ HB3.out).mono ?_
 rintro e w4 ⟨hB, ⟨_, rfl⟩ | ⟨hx, _⟩⟩
 rotate_left
 ·exact absurd (Hc.out.symm.trans hx) (by decide)
 have HG4 := Lib.hid (HG3.out.below hB HG3.out.lt)
 have HB4 := Lib.hid (HB3.out.trans (hB.mono HB3.out.size))
 obtain ⟨c0, c1, c2, c3, c4⟩ := cells5s HG4.out
 have l4 := HG4.out.lt
 clear hB HG3 HB3 HR l3
 go_wp2_with fail
 with_reducible refine (HN.out _ HB4.out).mono ?_
 rintro e w5 ⟨hB, ⟨_, rfl⟩ | ⟨hx, _⟩⟩
 rotate_left
 ·exact absurd (Hc.out.symm.trans hx) (by decide)
 have HG5 := Lib.hid (HG4.out.below hB HG4.out.lt)
 have HB5 := Lib.hid (HB4.out.trans (hB.mono HB4.out.size))
 obtain ⟨c0, c1, c2, c3, c4⟩ := cells5s HG5.out
 have l5 := HG5.out.lt
 clear hB HG4 HB4 HN l4
 go_wp2_with fail
 with_reducible refine (HEr.out _ _).mono ?_
 rintro e w' ⟨rfl, rfl⟩
 go_wp2_with fail
 with_reducible refine (HEr.out _ _).mono ?_
 rintro e w' ⟨rfl, rfl⟩
 go_wp2_with fail
 with_reducible refine (HBn.out _).mono ?_
 rintro e w6 ⟨rfl, hB⟩
 have HB6 := Lib.hid (HB5.out.trans (hB.mono HB5.out.size))
 clear hB HB5
 go_wp2_with fail
 with_reducible refine (HWk.out _ HB6.out).mono ?_
 rintro e w7 ⟨rfl, hB⟩
 have HBz := Lib.hid (HB6.out.trans (hB.mono HB6.out.size))
 clear hB
 go_wp2
 go_ret
 exact ⟨rfl, HBz.out⟩

set_option maxRecDepth 100000 in
set_option maxHeartbeats 8000000 in
theorem lawSets_good (g : GramM) (w : World) (hg : AGram w g) (hT : TabAt 1 Lib.deBruijn64tab w) (hv : vast8 g = false) (hc : checkB g = true) : Calls Tryz.prog 4 #[gramV g] w fun e w' => e = .returned (.bool true) ∧ Below w.heap.size w w' := by
 have hf := hg.fit8 hv
 have HBase := Lib.hid (And.intro hg.inn hf)
 have hB0 : Below w.heap.size w (w.alloc (.cells (gramC g) 27)) := (Below.refl _ _).alloc (Nat.le_refl _) _
 have HV := Lib.hid (vast8_any g _ (hg.below hB0))
 rw [hv] at HV
 have HB0 := Lib.hid hB0
 have HG0 := Lib.hid (Blk.new w 27 (gramC g))
 have HC := Lib.hid (fun W (hW : Below w.heap.size w W) => rcheck_any g W (hg.inn.below hW) hf)
 have HP := Lib.hid (fun W (hW : Below w.heap.size w W) => First_any g hf W (hg.inn.below hW))
 have HR := Lib.hid (fun W (hW : Below w.heap.size w W) => Follow_any g hf W (hg.inn.below hW))
 have HN := Lib.hid (fun W (hW : Below w.heap.size w W) => Ends_any g hf W (hg.inn.below hW))
 have HWk := Lib.hid (fun W (hW : Below w.heap.size w W) => works_any W (tab_below hT hW))
 have HBo := Lib.hid (fun (a b : List Bool) (aa ab : Option Addr) (ca cb : Nat) (e n : Int) (W : World) (ha : RowBool W aa a) (hb : RowBool W ab b) (la : a.length ≤ 1048576) (lb : b.length ≤ 1048576) => bools_any a b aa ab ca cb e n W ha hb la lb)
 have HBn : Hid (∀ W : World, Calls Tryz.prog 17 #[.slice none 0 0, .slice none 0 0, .int .i64 160, .int .i64 160] W fun r w' => r = .returned (.bool true) ∧ Below W.heap.size W w') := Lib.hid (fun W => bools_any [] [] none none 0 0 160 160 W (RowOf.nil _) (RowOf.nil _) (by simp) (by simp))
 have HEr : Hid (∀ (m : Int) (W : World), Calls Tryz.prog 25 #[.int .i64 m] W fun e w' => e = .returned (.int .i64 m) ∧ W = w') := Lib.hid (fun m W => errno_any m W)
 have Hc := Lib.hid hc
 rw [hc] at HC

 have hm := mayB_of hc
 have hs := maySet_of hc
 have HP' := Lib.hid (fun W (hW : Below w.heap.size w W) => rfirst_any g hm hs W (hg.inn.below hW))
 have HR' := Lib.hid (fun W (hW : Below w.heap.size w W) => rfollow_any g hm hs W (hg.inn.below hW))
 have hn1 : g.sorts.length ≤ 1000 := hm.sorts2
 unfold RSetsPost at HP'
 unfold RFollowPost at HR'
 clear hm hs
 unfold TellSets at HP HR
 unfold TellEnds at HN
 obtain ⟨n, hn⟩ : ∃ n, n = g.sorts.length := ⟨_, rfl⟩
 obtain ⟨np, hnp⟩ : ∃ n, n = g.prods.length := ⟨_, rfl⟩
 have N1 := Lib.hid hn
 clear hB0 hg hT hv hc hf
 unfold gramV gramC errI at *
 rw [← hn] at hn1
 rw [← hn, ← hnp] at HV HB0 HG0 HC HP HR HN HP' HR' ⊢
 clear hn hnp
 go_enter Tryz.func4, Tryz.ntmps4
 go_wp2_with fail
 refine HV.out.mono ?_
 rintro e w1 ⟨rfl, hB1⟩
 have HG1 := Lib.hid (HG0.out.below hB1 HG0.out.lt)
 have HB1 := Lib.hid (HB0.out.trans (hB1.mono HB0.out.size))
 obtain ⟨c0, c1, c2, c3, c4⟩ := cells5s HG1.out
 have l1 := HG1.out.lt
 clear hB1 HG0 HB0 HV
 go_wp2_with fail
 with_reducible refine (HC.out _ HB1.out).mono ?_
 rintro e w2 ⟨rfl, hB2⟩
 have HG2 := Lib.hid (HG1.out.below hB2 HG1.out.lt)
 have HB2 := Lib.hid (HB1.out.trans (hB2.mono HB1.out.size))
 obtain ⟨c0, c1, c2, c3, c4⟩ := cells5s HG2.out
 have l2 := HG2.out.lt
 clear hB2 HG1 HB1 HC l1
 go_wp2_with fail
 with_reducible refine (HP.out _ HB2.out).mono ?_
 rintro e w3 ⟨hB, ⟨hx, _⟩ | ⟨_, M0, B0, ca0, cs0, hM, hne0, rfl, _, hk, hat⟩⟩
 ·exact absurd (Hc.out.symm.trans hx) (by decide)
 have HM0 := Lib.hid (And.intro hM hat)
 have HG3 := Lib.hid (HG2.out.below hB HG2.out.lt)
 have HK0_3 := Lib.hid hk
 have HB3 := Lib.hid (HB2.out.trans (hB.mono HB2.out.size))
 obtain ⟨c0, c1, c2, c3, c4⟩ := cells5s HG3.out
 have l3 := HG3.out.lt
 have hln : M0.length = n := by rw [N1.out]; exact hM.1
 rw [hln]
 have HLn0 := Lib.hid hln
 clear hB hM hk hat hne0 hln HG2 HB2 HP l2 
 go_wp2_with fail
 with_reducible refine (HR.out _ HB3.out).mono ?_
 rintro e w4 ⟨hB, ⟨hx, _⟩ | ⟨_, M1, B1, ca1, cs1, hM, hne1, rfl, _, hk, hat⟩⟩
 ·exact absurd (Hc.out.symm.trans hx) (by decide)
 have HM1 := Lib.hid (And.intro hM hat)
 have HG4 := Lib.hid (HG3.out.below hB HG3.out.lt)
 have HK0_4 := Lib.hid (HK0_3.out.below hB HK0_3.out.lt)
 have HK1_4 := Lib.hid hk
 have HB4 := Lib.hid (HB3.out.trans (hB.mono HB3.out.size))
 obtain ⟨c0, c1, c2, c3, c4⟩ := cells5s HG4.out
 have l4 := HG4.out.lt
 have hln : M1.length = n := by rw [N1.out]; exact (by obtain ⟨B, h, rfl⟩ := hM; rw [List.length_map]; exact h.1)
 rw [hln]
 have HLn1 := Lib.hid hln
 clear hB hM hk hat hne1 hln HG3 HB3 HR l3 HK0_3
 go_wp2_with fail
 with_reducible refine (HN.out _ HB4.out).mono ?_
 rintro e w5 ⟨hB, ⟨hx, _⟩ | ⟨_, M2, B2, ca2, cs2, hM, hne2, rfl, _, hk, hat⟩⟩
 ·exact absurd (Hc.out.symm.trans hx) (by decide)
 have HM2 := Lib.hid (And.intro hM hat)
 have HG5 := Lib.hid (HG4.out.below hB HG4.out.lt)
 have HK0_5 := Lib.hid (HK0_4.out.below hB HK0_4.out.lt)
 have HK1_5 := Lib.hid (HK1_4.out.below hB HK1_4.out.lt)
 have HK2_5 := Lib.hid hk
 have HB5 := Lib.hid (HB4.out.trans (hB.mono HB4.out.size))
 obtain ⟨c0, c1, c2, c3, c4⟩ := cells5s HG5.out
 have l5 := HG5.out.lt
 have hln : M2.length = n := by rw [N1.out]; exact (by obtain ⟨B, h, rfl⟩ := hM; rw [List.length_map]; exact h.1)
 rw [hln]
 have HLn2 := Lib.hid hln
 clear hB hM hk hat hne2 hln HG4 HB4 HN l4 HK0_4 HK1_4
 go_wp2_with fail
 with_reducible refine (HP'.out _ HB5.out).mono ?_
 rintro e w6 ⟨R0, B3, hR, rfl, _, hk, hB⟩
 have hE : R0 = M0 := FirstP.unique hR HM0.out.1
 rw [hE] at hk ⊢
 rw [HLn0.out]
 have HG6 := Lib.hid (HG5.out.below hB HG5.out.lt)
 have HK0_6 := Lib.hid (HK0_5.out.below hB HK0_5.out.lt)
 have HK1_6 := Lib.hid (HK1_5.out.below hB HK1_5.out.lt)
 have HK2_6 := Lib.hid (HK2_5.out.below hB HK2_5.out.lt)
 have HK3_6 := Lib.hid hk
 have HB6 := Lib.hid (HB5.out.trans (hB.mono HB5.out.size))
 obtain ⟨c0, c1, c2, c3, c4⟩ := cells5s HG6.out
 have l6 := HG6.out.lt
 clear hB hR hk hE HG5 HB5 HP' l5 HK0_5 HK1_5 HK2_5
 go_wp2_with fail
 with_reducible refine (HR'.out _ HB6.out).mono ?_
 rintro e w7 ⟨R1, B4, B5, hR, rfl, _, _, hk, hk2, hB⟩
 have hE1 : R1.map (·.bytes) = M1 := FollowP.unique ⟨R1, hR, rfl⟩ HM1.out.1
 have hE2 : R1.map (·.fin) = M2 := EndsP.unique ⟨R1, hR, rfl⟩ HM2.out.1
 rw [hE1] at hk
 rw [hE2] at hk2
 have HG7 := Lib.hid (HG6.out.below hB HG6.out.lt)
 have HK0_7 := Lib.hid (HK0_6.out.below hB HK0_6.out.lt)
 have HK1_7 := Lib.hid (HK1_6.out.below hB HK1_6.out.lt)
 have HK2_7 := Lib.hid (HK2_6.out.below hB HK2_6.out.lt)
 have HK3_7 := Lib.hid (HK3_6.out.below hB HK3_6.out.lt)
 have HK4_7 := Lib.hid hk
 have HK5_7 := Lib.hid hk2
 have HB7 := Lib.hid (HB6.out.trans (hB.mono HB6.out.size))
 clear hB hR hk hk2 hE1 hE2 HG6 HB6 HR' l6 c0 c1 c2 c3 c4 HK0_6 HK1_6 HK2_6 HK3_6
 go_wp2_with fail
 with_reducible refine (HEr.out _ _).mono ?_
 rintro e w' ⟨rfl, rfl⟩
 go_wp2_with fail
 with_reducible refine (HEr.out _ _).mono ?_
 rintro e w' ⟨rfl, rfl⟩
 have HL0 : Hid (Below w7.heap.size w7 w7) := Lib.hid (Below.refl _ _)
 go_wp2
 go_loopw [13] (fun vi wr => ∃ i : Nat, vi = .int .i64 i ∧ i ≤ n ∧ Hid (Below w7.heap.size w7 wr)) (fun vi _ => n - (intOf vi).toNat)
 case atStart => exact ⟨0, rfl, Nat.zero_le _, HL0⟩
 case round =>
  clear HL0
  obtain ⟨i, rfl, hi, K⟩ := hrel
  by_cases hlt : i < n
  ·obtain ⟨s, hs⟩ : ∃ s, M0[i]? = some s := ⟨_, List.getElem?_eq_getElem (by rw [HLn0.out]; exact hlt)⟩
   obtain ⟨t, ht⟩ : ∃ t, M1[i]? = some t := ⟨_, List.getElem?_eq_getElem (by rw [HLn1.out]; exact hlt)⟩
   have k0 := HK0_7.out.below K.out HK0_7.out.lt
   have k1 := HK1_7.out.below K.out HK1_7.out.lt
   have k3 := HK3_7.out.below K.out HK3_7.out.lt
   have k4 := HK4_7.out.below K.out HK4_7.out.lt
   obtain ⟨a0, a1, a2, a3⟩ := set_cells_at k0 (HM0.out.2 i s hs)
   obtain ⟨b0, b1, b2, b3⟩ := set_cells_at k1 (HM1.out.2 i t ht)
   obtain ⟨d0, d1, d2, d3⟩ := set_cells k3 hs
   obtain ⟨e0, e1, e2, e3⟩ := set_cells k4 ht
   have la := k0.lt
   have lb := k1.lt
   have ld := k3.lt
   have le := k4.lt
   have z1 : (i : Int) < (n : Int) := by omega
   have z0 : (0 : Int) ≤ (i : Int) := by omega
   have hE1 := eq_sets s s
   have hE2 := eq_sets t t
   rw [beq_self_eq_true] at hE1 hE2
   have HZ : Hid (∀ m, Below w7.heap.size w7 (wr.drewN m)) := Lib.hid (fun m => below_drewN K.out m)
   clear hs ht k0 k1 k3 k4 K
   go_wp2
   go_quiet (fail)
   go_wp2
   go_roundw
   case rel => exact ⟨i + 1, by go_num, by omega, Lib.hid (HZ.out _)⟩
   case measure => simp [intOf]; omega
  ·obtain rfl : i = n := by omega
   have hl2 : M2.length ≤ 1048576 := by rw [HLn2.out]; omega
   have HBx := Lib.hid (HBo.out M2 M2 (some ⟨B2, 0, none⟩) (some ⟨B5, 0, none⟩) ca2 i 0 0 wr (row_marks (HK2_7.out.below K.out HK2_7.out.lt) HM2.out.2) (HK5_7.out.below K.out HK5_7.out.lt).row hl2 hl2)
   rw [boolsB_same, HLn2.out] at HBx
   have HBK := Lib.hid (HB7.out.trans (K.out.mono HB7.out.size))
   clear K hl2
   go_wp2_with fail
   with_reducible refine HBx.out.mono ?_
   rintro e wa ⟨rfl, hB⟩
   have HBa := Lib.hid (HBK.out.trans (hB.mono HBK.out.size))
   clear hB
   go_wp2_with fail
   with_reducible refine (HWk.out _ HBa.out).mono ?_
   rintro e wb ⟨rfl, hB⟩
   have HBz := Lib.hid (HBa.out.trans (hB.mono HBa.out.size))
   clear hB
   go_wp2
   go_ret
   exact ⟨rfl, HBz.out⟩
theorem lawSets_any (g : GramM) (w : World) (hg : AGram w g) (hT : TabAt 1 Lib.deBruijn64tab w) : Calls Tryz.prog 4 #[gramV g] w fun e w' => e = .returned (.bool true) ∧ Below w.heap.size w w' := by
 cases hv : vast8 g with
 | true => exact lawSets_vast g w hg hT hv
 | false =>
  cases hc : checkB g with
  | true => exact lawSets_good g w hg hT hv hc
  | false => exact lawSets_bad g w hg hT hv hc
end Go.Proofs.YtodnlcbnbkkanaaGreatDoor
end
