import Derived.Shelf.SlLaysF0
import Derived.Ground.SlsfProg
import Derived.Test.YtegmoeeeomjkgaaDoorProg
import Derived.Shelf.SlSortCmp.WholeK
import Derived.Shelf.SlSortFuncK.ComposeK
import Derived.Test.YtegmoeeeomjkgaaDoorZ4
import Derived.Test.YtegmoeeeomjkgaaDoorZ6
section
namespace Go.Proofs.YtegmoeeeomjkgaaDoor
open Go Go.RowKit Go.Maps Go.Shelf

theorem splitL_len (l : List BS) : (splitL l).length ≤ 256 ∧ 0 < (splitL l).length := by
  obtain ⟨h1, h2⟩ := splitL_parts l
  have hnd : (splitL l).Nodup := h2.imp (fun {a b} h e => by rw [e] at h; exact absurd h (Nat.lt_irrefl _))
  refine ⟨part_card _ hnd (fun s hs => (h1 s).1 hs), ?_⟩
  obtain ⟨p, hp⟩ := part_some l
  exact List.length_pos_of_mem ((h1 p).2 hp)

set_option maxRecDepth 100000 in
set_option maxHeartbeats 8000000 in
theorem lawSplits_any (HS : SortsS) (s : Option Addr) (cs : Nat) (l : List BS) (w : World) (hG : Glob w) (hd : RowB w s l) (h1 : l.length ≤ 30) :
    Calls Tryd.prog 5 #[.slice s l.length cs] w fun e w' => e = .returned (.bool true) ∧ Below w.heap.size w w' := by
  have HG := Lib.hid hG
  have HD := Lib.hid hd
  clear hG hd
  have h1' : ¬ (30 : Int) < l.length := by omega
  have HSp := Lib.hid (fun W (hB : Below w.heap.size w W) => split_any HS s cs l W (HG.out.below (Nat.le_refl _) hB) (HD.out.below hB (Nat.le_refl _)) (by omega))
  have HRf := Lib.hid (fun W (hB : Below w.heap.size w W) => rsplit_any s cs l W (HD.out.below hB (Nat.le_refl _)) (by omega))
  obtain ⟨hL1, hL2⟩ := splitL_len l
  generalize splitL l = L at HSp HRf hL1 hL2
  go_enter Tryd.func5, Tryd.ntmps5
  go_wp2_with fail
  refine (HSp.out w (Below.refl _ _)).mono ?_
  rintro e w1 ⟨v1, rfl, hO1, hB1⟩
  obtain ⟨a1, c1, rfl, _⟩ := owned_rowB hO1
  obtain ⟨g1, rfl⟩ := ownsRow_pos hO1 hL2
  have hg1 := (hO1.lt g1 rfl).2
  have hg1' := (hO1.lt g1 rfl).1
  have HO1 := Lib.hid hO1
  have HB1 := Lib.hid hB1
  clear hO1 hB1
  go_wp2_with fail
  refine (HSp.out w1 HB1.out).mono ?_
  rintro e w2 ⟨v2, rfl, hO2, hB2⟩
  obtain ⟨a2, c2, rfl, _⟩ := owned_rowB hO2
  obtain ⟨g2, rfl⟩ := ownsRow_pos hO2 hL2
  have HO1' := Lib.hid (own_below HO1.out hB2 (Nat.le_refl _))
  have HB2 := Lib.hid (HB1.out.trans (hB2.mono HB1.out.size))
  have HO2 := Lib.hid hO2
  have hs12 := hB2.size
  clear hO2 hB2 HO1 HB1
  go_wp2_with fail
  refine (HRf.out w2 HB2.out).mono ?_
  rintro e w3 ⟨v3, rfl, hO3, hB3⟩
  obtain ⟨a3, c3, rfl, _⟩ := owned_rowB hO3
  obtain ⟨g3, rfl⟩ := ownsRow_pos hO3 hL2
  have HO1'' := Lib.hid (own_below HO1'.out hB3 (Nat.le_refl _))
  have HO2' := Lib.hid (own_below HO2.out hB3 (Nat.le_refl _))
  have HB3 := Lib.hid (HB2.out.trans (hB3.mono HB2.out.size))
  have HO3 := Lib.hid hO3
  have hs23 := hB3.size
  clear hO3 hB3 HO1' HO2 HB2 HSp HRf
  go_wp2
  go_loopw [6] (fun i wr => ∃ (k : Nat) (G : List BS), i = .int .i64 k ∧ k ≤ L.length ∧ G.length = L.length ∧ Hid (∀ j, k ≤ j → G[j]? = L[j]?) ∧ Hid (wr.ownsRow w.heap.size 29 4 (.slice (some ⟨g1, 0, none⟩) L.length c1) L.length (cellsB G)) ∧ Hid (w3.grownBy wr (some g1)))
    (fun i _ => L.length - (intOf i).toNat)
  case atStart => exact ⟨0, L, rfl, Nat.zero_le _, rfl, fun j _ => rfl, HO1'', grown_of_below (Below.refl _ _) _⟩
  case round =>
    clear HO1''
    obtain ⟨k, G, rfl, hk, hGl, hGj, hO, hg⟩ := hrel
    have HO3r := Lib.hid (HO3.out.kept hg.out (.inr (Ne.symm (row_ne_low HO3.out (by omega)))))
    have HO2r := Lib.hid (HO2'.out.kept hg.out (.inr (Ne.symm (row_ne_low HO2'.out (by omega)))))
    by_cases hlt : k < L.length
    · have HX : Hid (L[k]? = some L[k]) := Lib.hid (List.getElem?_eq_getElem hlt)
      obtain ⟨x, hx⟩ : ∃ x, L[k] = x := ⟨_, rfl⟩
      rw [hx] at HX
      clear hx
      have HXG := Lib.hid ((hGj.out k (Nat.le_refl _)).trans HX.out)
      obtain ⟨p0, p1, p2, p3⟩ := cellsB_at L k x HX.out
      obtain ⟨q0, q1, q2, q3⟩ := cellsB_at G k x HXG.out
      have c0 : wr.cell? ⟨g3, k * 4, none⟩ = some (.int .u64 (wdI x 0)) := (HO3r.out.cellAt (k * 4) (by omega)).trans p0
      have c1' : wr.cell? ⟨g3, k * 4 + 1, none⟩ = some (.int .u64 (wdI x 1)) := (HO3r.out.cellAt (k * 4 + 1) (by omega)).trans p1
      have c2' : wr.cell? ⟨g3, k * 4 + 2, none⟩ = some (.int .u64 (wdI x 2)) := (HO3r.out.cellAt (k * 4 + 2) (by omega)).trans p2
      have c3' : wr.cell? ⟨g3, k * 4 + 3, none⟩ = some (.int .u64 (wdI x 3)) := (HO3r.out.cellAt (k * 4 + 3) (by omega)).trans p3
      have d0 : wr.cell? ⟨g1, k * 4, none⟩ = some (.int .u64 (wdI x 0)) := (hO.out.cellAt (k * 4) (by omega)).trans q0
      have d1 : wr.cell? ⟨g1, k * 4 + 1, none⟩ = some (.int .u64 (wdI x 1)) := (hO.out.cellAt (k * 4 + 1) (by omega)).trans q1
      have d2 : wr.cell? ⟨g1, k * 4 + 2, none⟩ = some (.int .u64 (wdI x 2)) := (hO.out.cellAt (k * 4 + 2) (by omega)).trans q2
      have d3 : wr.cell? ⟨g1, k * 4 + 3, none⟩ = some (.int .u64 (wdI x 3)) := (hO.out.cellAt (k * 4 + 3) (by omega)).trans q3
      have HE := eq_sets x x
      have hbb : (x == x) = true := by simp
      rw [hbb] at HE
      clear hbb p0 p1 p2 p3 q0 q1 q2 q3
      have n1 : (k : Int) < (L.length : Int) := by omega
      have n0 : (0 : Int) ≤ (k : Int) := Int.natCast_nonneg _
      have fz0 := hO.out.frozenAt (k * 4)
      have fz1 := hO.out.frozenAt (k * 4 + 1)
      have fz2 := hO.out.frozenAt (k * 4 + 2)
      have fz3 := hO.out.frozenAt (k * 4 + 3)
      have hOd : wr.drew.ownsRow w.heap.size 29 4 (.slice (some ⟨g1, 0, none⟩) L.length c1) L.length (cellsB G) := own_below hO.out (Below.refl wr.heap.size wr).drew (Nat.le_refl _)
      obtain ⟨s1, y1⟩ := hOd.stored (k * 4) (.int .u64 (wdI 0#256 0))
      obtain ⟨s2, y2⟩ := s1.stored (k * 4 + 1) (.int .u64 (wdI 0#256 1))
      obtain ⟨s3, y3⟩ := s2.stored (k * 4 + 2) (.int .u64 (wdI 0#256 2))
      obtain ⟨s4, y4⟩ := s3.stored (k * 4 + 3) (.int .u64 (wdI 0#256 3))
      rw [cellsB_set G k 0#256 (by omega)] at s4
      have hgd : w3.grownBy wr.drew (some g1) := grown_more hg.out (grown_of_below (Below.refl wr.heap.size wr).drew _)
      have HG4 := Lib.hid (grown_more (grown_more (grown_more (grown_more hgd y1) y2) y3) y4)
      have HS4 := Lib.hid s4
      clear s1 s2 s3 s4 y1 y2 y3 y4 hOd hgd
      go_wp2
      go_region
      all_goals
        go_wp2
        go_roundw
        case rel =>
          refine ⟨k + 1, G.set k 0#256, by go_num, by omega, by simp [hGl], Lib.hid fun j hj => ?_, HS4, HG4⟩
          rw [List.getElem?_set_ne (by omega)]
          exact hGj.out j (by omega)
        case measure => simp [intOf]; omega
    · obtain rfl : k = L.length := by omega
      have HBr : Hid (Below w.heap.size w wr) := Lib.hid (HB3.out.grown hg.out HB3.out.size (fun i e => by cases e; exact hg1'))
      clear hO hg
      go_wp2
      obtain ⟨wo, rfl⟩ : ∃ wo : World, wo = wr := ⟨_, rfl⟩
      go_loopw [7] (fun i wr => ∃ k : Nat, i = .int .i64 k ∧ k ≤ L.length ∧ Hid (Below wo.heap.size wo wr))
        (fun i _ => L.length - (intOf i).toNat)
      case atStart => exact ⟨0, rfl, Nat.zero_le _, Below.refl _ _⟩
      case round =>
        obtain ⟨k, rfl, hk, hW⟩ := hrel
        by_cases hlt : k < L.length
        · have HX : Hid (L[k]? = some L[k]) := Lib.hid (List.getElem?_eq_getElem hlt)
          obtain ⟨x, hx⟩ : ∃ x, L[k] = x := ⟨_, rfl⟩
          rw [hx] at HX
          clear hx
          obtain ⟨p0, p1, p2, p3⟩ := cellsB_at L k x HX.out
          have hO3w := own_below HO3r.out hW.out (Nat.le_refl _)
          have hO2w := own_below HO2r.out hW.out (Nat.le_refl _)
          have c0 : wr.cell? ⟨g3, k * 4, none⟩ = some (.int .u64 (wdI x 0)) := (hO3w.cellAt (k * 4) (by omega)).trans p0
          have c1' : wr.cell? ⟨g3, k * 4 + 1, none⟩ = some (.int .u64 (wdI x 1)) := (hO3w.cellAt (k * 4 + 1) (by omega)).trans p1
          have c2' : wr.cell? ⟨g3, k * 4 + 2, none⟩ = some (.int .u64 (wdI x 2)) := (hO3w.cellAt (k * 4 + 2) (by omega)).trans p2
          have c3' : wr.cell? ⟨g3, k * 4 + 3, none⟩ = some (.int .u64 (wdI x 3)) := (hO3w.cellAt (k * 4 + 3) (by omega)).trans p3
          have d0 : wr.cell? ⟨g2, k * 4, none⟩ = some (.int .u64 (wdI x 0)) := (hO2w.cellAt (k * 4) (by omega)).trans p0
          have d1 : wr.cell? ⟨g2, k * 4 + 1, none⟩ = some (.int .u64 (wdI x 1)) := (hO2w.cellAt (k * 4 + 1) (by omega)).trans p1
          have d2 : wr.cell? ⟨g2, k * 4 + 2, none⟩ = some (.int .u64 (wdI x 2)) := (hO2w.cellAt (k * 4 + 2) (by omega)).trans p2
          have d3 : wr.cell? ⟨g2, k * 4 + 3, none⟩ = some (.int .u64 (wdI x 3)) := (hO2w.cellAt (k * 4 + 3) (by omega)).trans p3
          have HE := eq_sets x x
          have hbb : (x == x) = true := by simp
          rw [hbb] at HE
          clear hbb p0 p1 p2 p3 hO3w hO2w
          have n1 : (k : Int) < (L.length : Int) := by omega
          have n0 : (0 : Int) ≤ (k : Int) := Int.natCast_nonneg _
          go_wp2
          go_region
          all_goals
            go_wp2
            go_roundw
            case rel => exact ⟨k + 1, by go_num, by omega, hW.out.drew⟩
            case measure => simp [intOf]; omega
        · obtain rfl : k = L.length := by omega
          have HBz := Lib.hid (HBr.out.trans (hW.out.mono HBr.out.size))
          have HW := Lib.hid (works_any wr (HG.out.below (Nat.le_refl _) HBz.out))
          go_wp2_with fail
          refine HW.out.mono ?_
          rintro e w9 ⟨rfl, hb9⟩
          have HB9 := Lib.hid (HBz.out.trans (hb9.mono HBz.out.size))
          clear hb9
          go_wp2
          go_ret
          exact ⟨rfl, HB9.out⟩

set_option maxRecDepth 100000 in
set_option maxHeartbeats 4000000 in
theorem lawSplits_long (s : Option Addr) (cs : Nat) (l : List BS) (w : World) (hG : Glob w) (h : 30 < l.length) :
    Calls Tryd.prog 5 #[.slice s l.length cs] w fun e w' => e = .returned (.bool true) ∧ Below w.heap.size w w' := by
  have HW := Lib.hid (works_any w hG)
  clear hG
  have h1' : (30 : Int) < l.length := by omega
  go_enter Tryd.func5, Tryd.ntmps5
  go_wp2_with fail
  refine HW.out.mono ?_
  rintro e w1 ⟨rfl, hB⟩
  have HB := Lib.hid hB
  clear hB HW
  go_wp2
  go_ret
  exact ⟨rfl, HB.out⟩

theorem lawSplits (HS : SortsS) (s : Option Addr) (cs : Nat) (l : List BS) (w : World) (hG : Glob w) (hd : RowB w s l) :
    Calls Tryd.prog 5 #[.slice s l.length cs] w fun e w' => e = .returned (.bool true) ∧ Below w.heap.size w w' := by
  by_cases h : l.length ≤ 30
  · exact lawSplits_any HS s cs l w hG hd h
  · exact lawSplits_long s cs l w hG (by omega)
end Go.Proofs.YtegmoeeeomjkgaaDoor
end
section
/-
  DERIVED: THE SHELF's CONTRACTS AT THIS DUMP, IN PLAIN WORDS (tools/lay-plain.mjs out of 'YtegmoeeeomjkgaaDoorLib3.lean', which tools/lay-shelf.mjs wrote): THE SAME DECLARATIONS UNDER THE SAME NAMES: 'import', 'namespace', 'open', 'def', 'theorem' AND NOTHING ELSE: no command of the shelf's: FOR A HAND-IN. Each laying: the table of numbers ('.._ren') and one theorem, a field a fact of the dump's own or the kernel's comparison; each contract: ONE APPLICATION.
-/
namespace Go.Proofs
open Go.Shelf
def Tryd.sortS_ren : Go.Shelf.Ren := ⟨fun | 6 => 58 | 15 => 68 | 14 => 67 | 28 => 80 | 29 => 81 | 20 => 72 | 21 => 73 | 22 => 74 | 23 => 75 | 24 => 76 | 25 => 77 | 26 => 78 | 27 => 79 | 46 => 84 | 47 => 85 | 48 => 86 | 49 => 87 | 50 => 88 | 57 => 92 | n => n, fun | 22 => 43 | 24 => 29 | 25 => 81 | 3 => 3 | 39 => 91 | 0 => 0 | 53 => 113 | 55 => 27 | 4 => 4 | 46 => 106 | 45 => 105 | 50 => 110 | 5 => 5 | 9 => 9 | 66 => 119 | 70 => 123 | 76 => 126 | 77 => 87 | n => n, fun | n => n⟩
theorem Tryd.sortS : Go.Proofs.SlLaysF0.n6 Tryd.prog Tryd.sortS_ren := {
  mixed := by kernel_rfl
  f6 := ⟨Tryd.f58.name, by decide, Tryd.func58.trans (congrArg some (by kernel_rfl))⟩
  f14 := ⟨Tryd.f67.name, by decide, Tryd.func67.trans (congrArg some (by kernel_rfl))⟩
  f15 := Tryd.func68.trans (congrArg some (by kernel_rfl))
  f20 := ⟨Tryd.f72.name, by decide, Tryd.func72.trans (congrArg some (by kernel_rfl))⟩
  f21 := ⟨Tryd.f73.name, by decide, Tryd.func73.trans (congrArg some (by kernel_rfl))⟩
  f22 := ⟨Tryd.f74.name, by decide, Tryd.func74.trans (congrArg some (by kernel_rfl))⟩
  f23 := ⟨Tryd.f75.name, by decide, Tryd.func75.trans (congrArg some (by kernel_rfl))⟩
  f24 := ⟨Tryd.f76.name, by decide, Tryd.func76.trans (congrArg some (by kernel_rfl))⟩
  f25 := ⟨Tryd.f77.name, by decide, Tryd.func77.trans (congrArg some (by kernel_rfl))⟩
  f26 := ⟨Tryd.f78.name, by decide, Tryd.func78.trans (congrArg some (by kernel_rfl))⟩
  f27 := ⟨Tryd.f79.name, by decide, Tryd.func79.trans (congrArg some (by kernel_rfl))⟩
  f28 := Tryd.func80.trans (congrArg some (by kernel_rfl))
  f29 := Tryd.func81.trans (congrArg some (by kernel_rfl))
  f46 := ⟨Tryd.f84.name, by decide, Tryd.func84.trans (congrArg some (by kernel_rfl))⟩
  f47 := Tryd.func85.trans (congrArg some (by kernel_rfl))
  f48 := Tryd.func86.trans (congrArg some (by kernel_rfl))
  f49 := ⟨Tryd.f87.name, by decide, Tryd.func87.trans (congrArg some (by kernel_rfl))⟩
  f50 := ⟨Tryd.f88.name, by decide, Tryd.func88.trans (congrArg some (by kernel_rfl))⟩
  f57 := ⟨Tryd.f92.name, by decide, Tryd.func92.trans (congrArg some (by kernel_rfl))⟩
  t0 := Tryd.underlying0
  a0 := Tryd.isAgg0
  z0 := Tryd.sizeOf0
  v0 := Tryd.zeroValue0
  t3 := Tryd.underlying3
  a3 := Tryd.isAgg3
  z3 := Tryd.sizeOf3
  v3 := Tryd.zeroValue3
  t4 := Tryd.underlying4
  a4 := Tryd.isAgg4
  z4 := Tryd.sizeOf4
  v4 := Tryd.zeroValue4
  t5 := Tryd.underlying5
  a5 := Tryd.isAgg5
  z5 := Tryd.sizeOf5
  v5 := Tryd.zeroValue5
  t9 := Tryd.underlying9
  a9 := Tryd.isAgg9
  z9 := Tryd.sizeOf9
  v9 := Tryd.zeroValue9
  t22 := Tryd.underlying43
  a22 := Tryd.isAgg43
  z22 := Tryd.sizeOf43
  v22 := Tryd.zeroValue43
  t25 := Tryd.underlying81
  a25 := Tryd.isAgg81
  z25 := Tryd.sizeOf81
  v25 := Tryd.zeroValue81
  t39 := Tryd.underlying91
  a39 := Tryd.isAgg91
  z39 := Tryd.sizeOf91
  v39 := Tryd.zeroValue91
  t45 := Tryd.underlying105
  a45 := Tryd.isAgg105
  z45 := Tryd.sizeOf105
  v45 := Tryd.zeroValue105
  t46 := Tryd.underlying106
  a46 := Tryd.isAgg106
  z46 := Tryd.sizeOf106
  v46 := Tryd.zeroValue106
  t50 := Tryd.underlying110
  a50 := Tryd.isAgg110
  z50 := Tryd.sizeOf110
  v50 := Tryd.zeroValue110
  t53 := Tryd.underlying113
  a53 := Tryd.isAgg113
  z53 := Tryd.sizeOf113
  v53 := Tryd.zeroValue113
  t55 := Tryd.underlying27
  a55 := Tryd.isAgg27
  z55 := Tryd.sizeOf27
  v55 := Tryd.zeroValue27
  t66 := Tryd.underlying119
  a66 := Tryd.isAgg119
  z66 := Tryd.sizeOf119
  v66 := Tryd.zeroValue119
  t70 := Tryd.underlying123
  a70 := Tryd.isAgg123
  z70 := Tryd.sizeOf123
  v70 := Tryd.zeroValue123
  t76 := Tryd.underlying126
  a76 := Tryd.isAgg126
  z76 := Tryd.sizeOf126
  v76 := Tryd.zeroValue126
  t77 := Tryd.underlying87
  a77 := Tryd.isAgg87
  z77 := Tryd.sizeOf87
  v77 := Tryd.zeroValue87 }
end Go.Proofs
end
section
namespace Go.Proofs.YtegmoeeeomjkgaaDoor
open Go Go.RowKit Go.Maps Go.Shelf Go.Lib Go.Sort

/-- A part, as the sort moves it. -/
abbrev PartOf (l : List BS) := {p : BS // Part l p}
noncomputable instance (l : List BS) : Inhabited (PartOf l) := ⟨⟨(part_some l).choose, (part_some l).choose_spec⟩⟩
def encP (l : List BS) (p : PartOf l) : List Value := [.int .u64 (wdI p.1 0), .int .u64 (wdI p.1 1), .int .u64 (wdI p.1 2), .int .u64 (wdI p.1 3)]
def cfP (l : List BS) (p q : PartOf l) : Int := cmpI (lo p.1) (lo q.1)

theorem ltP (l : List BS) (p q : PartOf l) : ltOf (cfP l) p q = decide (lo p.1 < lo q.1) := by
  unfold ltOf cfP cmpI
  rw [decide_eq_decide]
  by_cases h1 : ((lo p.1 : Nat) : Int) < ((lo q.1 : Nat) : Int)
  · rw [if_pos h1]; constructor <;> intro _ <;> omega
  · rw [if_neg h1]
    by_cases h2 : ((lo q.1 : Nat) : Int) < ((lo p.1 : Nat) : Int)
    · rw [if_pos h2]; constructor <;> intro _ <;> omega
    · rw [if_neg h2]; constructor <;> intro _ <;> omega

theorem swoP (l : List BS) : SWO (ltOf (cfP l)) where
  irrefl x := by rw [ltP]; simp
  trans x y z h1 h2 := by rw [ltP] at *; simp at *; omega
  ntrans x y z h1 h2 := by rw [ltP] at *; simp at *; omega

theorem below_sortW {α : Type} [Inhabited α] {en : α → List Value} {k B g n : Nat} {w0 w : World} {d' : Array α} {os : Array Obj} (h : RowKit.Below B w0 w) (hsz : B ≤ w.heap.size) (hg : B ≤ g) : RowKit.Below B w0 (sortWorldK en k w g 0 n d' os) := by
  refine h.trans ⟨rfl, rfl, rfl, ?_, ?_⟩
  · show w.heap.size ≤ ((w.heap.modify g _) ++ os).size
    simp
  · intro k hk
    show ((w.heap.modify g _) ++ os)[k]? = w.heap[k]?
    rw [Array.getElem?_append_left (by rw [Array.size_modify]; omega), Array.getElem?_modify, if_neg (by omega)]

theorem cmpLaysP (l : List BS) (Bm b n base blk size : Nat) (w : World) (hm : w.cell? ⟨Bm, 0, none⟩ = some (.map (some b))) (hM : MapS w b n (Part l)) (hBm : Bm < base) (hb : b < base) (hbase : base ≤ w.heap.size) (hg : base ≤ blk) :
    CmpLays Tryd.prog 50 #[.pointer (some ⟨Bm, 0, none⟩)] (encP l) 4 (cfP l) blk 0 size w := by
  intro m os dk _ x y
  have hB : RowKit.Below base w (sortWorldK (encP l) 4 w blk 0 m dk os) := below_sortW ((RowKit.Below.refl _ _).mono hbase) hbase hg
  generalize sortWorldK (encP l) 4 w blk 0 m dk os = W at hB
  have hm' : W.cell? ⟨Bm, 0, none⟩ = some (.map (some b)) := (hB.cell (p := ⟨Bm, 0, none⟩) hBm).trans hm
  have hM' := hM.below hB hb
  refine (order_any Bm b n (Part l) x.1 y.1 x.2 y.2 W hm' hM').mono fun e w' ⟨he, hw⟩ => ⟨he, 1, #[.cells (cset x.1) 29, .cells (cset y.1) 29], ?_⟩
  rw [hw, alloc_eq_grow, alloc_eq_grow, grow_grow]
  rfl

theorem flat_getP (l : List BS) (d : List (PartOf l)) : ∀ j, j < d.length * 4 → (cellsB (d.map (·.1)))[j]? = some ((encP l d[j / 4]!)[j % 4]!) := by
  intro j hj
  have hi : j / 4 < d.length := by omega
  obtain ⟨k0, k1, k2, k3⟩ := cellsB_at (d.map (·.1)) (j / 4) (d[j / 4]).1 (by simp [hi])
  have e : d[j / 4]! = d[j / 4] := by simp [hi]
  rw [e]
  generalize d[j / 4] = x at *
  have h : j % 4 = 0 ∨ j % 4 = 1 ∨ j % 4 = 2 ∨ j % 4 = 3 := by omega
  rcases h with h | h | h | h
  · rw [h]; rw [show j / 4 * 4 = j by omega] at k0; exact k0
  · rw [h]; rw [show j / 4 * 4 + 1 = j by omega] at k1; exact k1
  · rw [h]; rw [show j / 4 * 4 + 2 = j by omega] at k2; exact k2
  · rw [h]; rw [show j / 4 * 4 + 3 = j by omega] at k3; exact k3

theorem holds_of_ownsP {l : List BS} {w : World} {base g cap : Nat} {d : List (PartOf l)} (h : w.ownsRow base 29 4 (.slice (some ⟨g, 0, none⟩) d.length cap) d.length (cellsB (d.map (·.1)))) : HoldsK (encP l) 4 w g 0 d.toArray := by
  intro j hj
  have hj' : j < d.length * 4 := by simpa using hj
  refine ⟨?_, by rw [Nat.zero_add]; exact h.frozenAt j⟩
  rw [Nat.zero_add, h.cellAt j hj', flat_getP l d j hj']
  congr 1
  show _ = (flatK (encP l) 4 d.toArray)[j]!
  rw [get_flatK (encP l) 4 d.toArray j (by simpa using hj')]
  simp

/-- The row behind the sort: it is owned as before, and holds the sorted parts. -/
theorem owns_of_sort {l : List BS} {w : World} {base g cap n : Nat} {d : List (PartOf l)} {d' : Array (PartOf l)} {os : Array Obj}
    (h : w.ownsRow base 29 4 (.slice (some ⟨g, 0, none⟩) d.length cap) d.length (cellsB (d.map (·.1)))) (hs : d'.size = d.length) :
    (sortWorldK (encP l) 4 w g 0 n d' os).ownsRow base 29 4 (.slice (some ⟨g, 0, none⟩) d.length cap) d.length (cellsB (d'.toList.map (·.1))) := by
  have hH := holds_of_ownsP h
  have hlt := (h.lt g rfl).2
  have hH' := holdsK_sortWorldK (encP l) 4 w g 0 n d.toArray d' os hlt hH (by simpa using hs)
  refine ⟨by rw [cellsB_length]; simp [hs], ?_⟩
  rcases h.2 with ⟨h1, _⟩ | ⟨g', cap', cur, h1, h2, h3, h4, h5, h6, h7⟩
  · cases h1
  · cases h1
    refine .inr ⟨g, cap, ?_⟩
    have hb : ∃ cur', (sortWorldK (encP l) 4 w g 0 n d' os).heap[g]? = some (.cells cur' 29 (0, 0)) ∧ cur'.size = cur.size := by
      refine ⟨putCells id 0 (flatK (encP l) 4 d') cur, ?_, by unfold putCells; simp⟩
      show ((w.heap.modify g (onCells (putCells id 0 (flatK (encP l) 4 d')))) ++ os)[g]? = _
      rw [Array.getElem?_append_left (by rw [Array.size_modify]; exact hlt), Array.getElem?_modify, if_pos rfl, h3]
      rfl
    obtain ⟨cur', hc, hz⟩ := hb
    refine ⟨cur', rfl, h2, hc, h4, h5, hz.trans h6, ?_⟩
    apply List.ext_getElem?
    intro j
    by_cases hj : j < d.length * 4
    · have hc1 := (hH' j (by simp [hs]; exact hj)).1
      rw [Nat.zero_add] at hc1
      have e1 : (sortWorldK (encP l) 4 w g 0 n d' os).cell? ⟨g, j, none⟩ = cur'[j]? := by
        unfold World.cell?
        rw [hc]
        rfl
      rw [e1] at hc1
      rw [List.getElem?_take_of_lt hj, Array.getElem?_toList, hc1, flat_getP l d'.toList j (by simp [hs]; exact hj)]
      congr 1
      show (flatK (encP l) 4 d')[j]! = _
      rw [get_flatK (encP l) 4 d' j (by rw [hs]; exact hj)]
      have hi : j / 4 < d'.size := by omega
      have e3 : d'.toList[j / 4]! = d'[j / 4]! := by
        rw [getElem!_pos d' _ hi, getElem!_pos d'.toList _ (by simpa using hi)]
        simp
      rw [e3]
    · rw [List.getElem?_eq_none (by simp; omega), List.getElem?_eq_none (by rw [cellsB_length]; simp [hs]; omega)]

theorem sortF : SortF := by
  intro base g cap Bm b n l ss w hP hm hM hBm hb hbase hlen hO
  obtain ⟨d, rfl⟩ : ∃ d : List (PartOf l), d.map (·.1) = ss := ⟨ss.attach.map fun p => ⟨p.1, hP p.1 p.2⟩, by simp⟩
  rw [List.length_map] at hlen hO ⊢
  have hg := hO.lt g rfl
  have eg : ∀ args w, (callFunc 50 args).run Tryd.prog w = .ok (.enter 50 args) w := enters_of Tryd.func50 (by kernel_rfl) rfl
  have hcon := AnyQ.slices_SortFunc Tryd.sortS 4 Tryd.isAgg29 Tryd.sizeOf29 (encP l) (fun _ => rfl) (fun x v hv => by simp [encP] at hv; rcases hv with rfl | rfl | rfl | rfl <;> rfl) (cfP l) (swoP l) 50 #[.pointer (some ⟨Bm, 0, none⟩)] g 0 cap d.toArray w eg (cmpLaysP l Bm b n base g d.toArray.size w hm hM hBm hb hbase hg.1) (holds_of_ownsP hO) hg.2 (by simp; omega)
  simp only [List.size_toArray] at hcon
  refine hcon.mono ?_
  rintro e w' ⟨rfl, d', n', os, hp, hs, rfl⟩
  have hsize : d'.size = d.length := by simpa using hp.1
  refine ⟨⟨_, rfl⟩, d'.toList.map (·.1), ?_, ?_, owns_of_sort hO hsize, below_sortW ((RowKit.Below.refl _ _).mono hbase) hbase hg.1⟩
  · have h2 := hp.2.2
    have e1 : d'.extract 0 d.length = d' := by rw [← hsize]; simp
    rw [e1] at h2
    exact List.Perm.map _ (by simpa using h2)
  · rw [List.pairwise_map, List.pairwise_iff_getElem]
    intro i j hi hj hij
    have h1 : i < d'.size := by simpa using hi
    have h2 : j < d'.size := by simpa using hj
    have := hs i j (Nat.zero_le _) hij (by omega)
    rw [ltP, decide_eq_false_iff_not, getElem!_pos d' i h1, getElem!_pos d' j h2] at this
    simp only [Array.getElem_toList]
    omega

theorem sortsS : SortsS := sorts_of sortF
end Go.Proofs.YtegmoeeeomjkgaaDoor
end
