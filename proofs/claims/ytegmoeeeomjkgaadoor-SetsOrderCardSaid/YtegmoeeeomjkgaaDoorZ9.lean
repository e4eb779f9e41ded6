import Derived.Test.YtegmoeeeomjkgaaDoorZ7
import Derived.Test.YtegmoeeeomjkgaaDoorZ8
section
namespace Go.Proofs.YtegmoeeeomjkgaaDoor
open Go Go.RowKit Go.Maps Go.Shelf

theorem RowB.drop {w : World} {s : Option Addr} {a : BS} {t : List BS} (h : RowB w s (a :: t)) : ∃ b off, s = some ⟨b, off, none⟩ ∧ RowB w (some ⟨b, off + 4, none⟩) t := by
  obtain ⟨b, off, rfl, _⟩ := h 0 a rfl
  refine ⟨b, off, rfl, fun i x hx => ?_⟩
  obtain ⟨b', off', e, h0, h1, h2, h3⟩ := h (i + 1) x (by simpa using hx)
  cases e
  refine ⟨b, off + 4, rfl, ?_, ?_, ?_, ?_⟩
  · rw [show off + 4 + i * 4 = off + (i + 1) * 4 by omega]; exact h0
  · rw [show off + 4 + i * 4 + 1 = off + (i + 1) * 4 + 1 by omega]; exact h1
  · rw [show off + 4 + i * 4 + 2 = off + (i + 1) * 4 + 2 by omega]; exact h2
  · rw [show off + 4 + i * 4 + 3 = off + (i + 1) * 4 + 3 by omega]; exact h3

theorem split_nil : (splitL []).length = 1 := by
  obtain ⟨h1, h2⟩ := splitL_parts []
  have hn : (splitL []).Nodup := h2.imp fun {a b} h e => by rw [e] at h; exact Nat.lt_irrefl _ h
  have := nodup_sub_len (m := [full]) hn (fun x hx => by
    have := (part_nil x).2 ((h1 x).1 hx)
    simpa using this)
  have := splitL_len []
  simp at *
  omega

/-- How many of the first m parts hold it: the one at place i. -/
def cin (i m : Nat) : Nat := if i < m then 1 else 0
theorem cin_zero (i : Nat) : cin i 0 = 0 := by simp [cin]
theorem cin_yes (i : Nat) : cin i (i + 1) = 1 ∧ cin i i = 0 := by simp [cin]
theorem cin_no {i m : Nat} (h : m ≠ i) : cin i (m + 1) = cin i m := by
  unfold cin
  by_cases h2 : i < m
  · rw [if_pos h2, if_pos (by omega)]
  · rw [if_neg h2, if_neg (by omega)]
theorem cin_end {i m : Nat} (h : i < m) : cin i m = 1 := by simp [cin, h]
theorem cin_le (i m : Nat) : cin i m ≤ 1 := by unfold cin; split <;> omega

set_option maxRecDepth 100000 in
set_option maxHeartbeats 4000000 in
theorem lawOrder_long (s : Option Addr) (cs : Nat) (l : List BS) (w : World) (hG : Glob w) (h : 12 < l.length) :
    Calls Tryd.prog 9 #[.slice s l.length cs] w fun e w' => e = .returned (.bool true) ∧ Below w.heap.size w w' := by
  have HW := Lib.hid (works_any w hG)
  clear hG
  have h1' : (12 : Int) < l.length := by omega
  go_enter Tryd.func9, Tryd.ntmps9
  go_wp2_with fail
  refine HW.out.mono ?_
  rintro e w1 ⟨rfl, hB⟩
  have HB := Lib.hid hB
  clear hB HW
  go_wp2
  go_ret
  exact ⟨rfl, HB.out⟩

set_option maxRecDepth 100000 in
set_option maxHeartbeats 16000000 in
theorem lawOrder_any (HS : SortsS) (s : Option Addr) (cs : Nat) (l : List BS) (w : World) (hG : Glob w) (hd : RowB w s l) (hls : l.length ≤ cs) (h1 : l.length ≤ 12) :
    Calls Tryd.prog 9 #[.slice s l.length cs] w fun e w' => e = .returned (.bool true) ∧ Below w.heap.size w w' := by
  obtain ⟨iB, hiB, hzB0, hzB1, hzB2⟩ := info_parts Tryd.info29
  have HG := Lib.hid hG
  have HD := Lib.hid hd
  clear hG hd
  have h1' : ¬ (12 : Int) < l.length := by omega
  have hB0 : Hid (Below w.heap.size w w) := Below.refl _ w
  have hO0 : Hid (w.ownsRow w.heap.size 29 4 (.slice none 0 0) (turned l 0).length (cellsB (turned l 0))) := World.ownsRow_nil _ _ _ _
  go_enter Tryd.func9, Tryd.ntmps9
  go_wp2
  go_loopw [3, 4] (fun v i wr => ∃ (j : Nat), i = .int .i64 ((j : Int) - 1) ∧ j ≤ l.length ∧ Hid (wr.ownsRow w.heap.size 29 4 v (turned l (l.length - j)).length (cellsB (turned l (l.length - j)))) ∧ Hid (Below w.heap.size w wr))
    (fun _ i _ => (intOf i + 1).toNat)
  case atStart => exact ⟨l.length, rfl, Nat.le_refl _, by rw [Nat.sub_self]; exact hO0, hB0⟩
  case round =>
    clear hO0 hB0
    obtain ⟨j, rfl, hj, hO, hB⟩ := hrel
    cases j with
    | succ j =>
      have ei : (((j + 1 : Nat) : Int) - 1) = (j : Int) := by omega
      rw [ei]
      have hjl : j < l.length := by omega
      have HX : Hid (l[j]? = some l[j]) := Lib.hid (List.getElem?_eq_getElem hjl)
      obtain ⟨x, hx⟩ : ∃ x, l[j] = x := ⟨_, rfl⟩
      rw [hx] at HX
      clear hx
      have HT : Hid (turned l (l.length - j) = turned l (l.length - (j + 1)) ++ [x, x]) := by
        refine Lib.hid ?_
        rw [show l.length - j = l.length - (j + 1) + 1 by omega]
        refine turned_succ l _ x ?_
        rw [List.getElem?_reverse (by omega), ← HX.out]
        congr 1
        omega
      have HTl : Hid ((turned l (l.length - (j + 1))).length ≤ 24) := by
        refine Lib.hid ?_
        rw [turned_len l _ (by omega)]
        omega
      generalize turned l (l.length - (j + 1)) = Q at hO HT HTl
      have hql : Q.length ≤ 24 := HTl.out
      clear HTl
      obtain ⟨b, off, rfl, e0, e1, e2, e3⟩ := HD.out j x HX.out
      have hbw : b < w.heap.size := lt_of_cell e0
      have c0 : wr.cell? ⟨b, off + j * 4, none⟩ = some (.int .u64 (wdI x 0)) := (hB.out.cell (p := ⟨b, _, none⟩) hbw).trans e0
      have c1 : wr.cell? ⟨b, off + j * 4 + 1, none⟩ = some (.int .u64 (wdI x 1)) := (hB.out.cell (p := ⟨b, _, none⟩) hbw).trans e1
      have c2 : wr.cell? ⟨b, off + j * 4 + 2, none⟩ = some (.int .u64 (wdI x 2)) := (hB.out.cell (p := ⟨b, _, none⟩) hbw).trans e2
      have c3 : wr.cell? ⟨b, off + j * 4 + 3, none⟩ = some (.int .u64 (wdI x 3)) := (hB.out.cell (p := ⟨b, _, none⟩) hbw).trans e3
      have hszr : w.heap.size ≤ wr.heap.size := hB.out.size
      have hbr : b < wr.heap.size := by omega
      have n1 : (j : Int) < (l.length : Int) := by omega
      have n0 : (0 : Int) ≤ (j : Int) := Int.natCast_nonneg _
      clear e0 e1 e2 e3 HX
      go_wp2_with fail
      go_region_law (first | (refine step_append_lies _ (by rfl) _ _ _ (by rfl) w.heap.size 29 iB _ 4 32 Tryd.underlying43 hiB hzB0 hzB1 hzB2 rfl (by decide) _ _ _ (by rfl) (hO.out.alloc (.cells #[.int .u64 (wdI x 0), .int .u64 (wdI x 1), .int .u64 (wdI x 2), .int .u64 (wdI x 3), .int .u64 (wdI x 0), .int .u64 (wdI x 1), .int .u64 (wdI x 2), .int .u64 (wdI x 3)] 29)) ⟨wr.heap.size, 0, none⟩ 2 2 [.int .u64 (wdI x 0), .int .u64 (wdI x 1), .int .u64 (wdI x 2), .int .u64 (wdI x 3), .int .u64 (wdI x 0), .int .u64 (wdI x 1), .int .u64 (wdI x 2), .int .u64 (wdI x 3)] (by rfl) (by rfl) (World.news_of_block (cs := #[.int .u64 (wdI x 0), .int .u64 (wdI x 1), .int .u64 (wdI x 2), .int .u64 (wdI x 3), .int .u64 (wdI x 0), .int .u64 (wdI x 1), .int .u64 (wdI x 2), .int .u64 (wdI x 3)]) (Blk.new wr 29 _)) (by simp [Value.oneCell']) (by omega) (by unfold maxLen; omega) (by omega) (by simp; omega) _ rfl ?_; intro g cap w1 hown1 hgrow _ _))
      all_goals
        have hf := own_finE (e := 29) (w := wr) (w1 := (wr.alloc (.cells #[.int .u64 (wdI x 0), .int .u64 (wdI x 1), .int .u64 (wdI x 2), .int .u64 (wdI x 3), .int .u64 (wdI x 0), .int .u64 (wdI x 1), .int .u64 (wdI x 2), .int .u64 (wdI x 3)] 29)).drew) (hO.out.alloc _) ((Lib.OthersKept.refl 29 none wr).alloc _).drew ((Below.refl w.heap.size wr).alloc hszr _).drew hszr hgrow
        have hB2 := Lib.hid (hB.out.trans hf.2)
        have e8 : cellsB (Q ++ [x, x]) = cellsB Q ++ [.int .u64 (wdI x 0), .int .u64 (wdI x 1), .int .u64 (wdI x 2), .int .u64 (wdI x 3), .int .u64 (wdI x 0), .int .u64 (wdI x 1), .int .u64 (wdI x 2), .int .u64 (wdI x 3)] := by simp [cellsB]
        have e9 : (Q ++ [x, x]).length = Q.length + 2 := by simp
        rw [← e8] at hown1
        have hO2 := Lib.hid hown1
        have E9 := Lib.hid e9
        clear hown1 hgrow hf hB hO c0 c1 c2 c3 e8 e9
        go_wp2
        go_roundw
        case rel => exact ⟨j, rfl, by omega, by rw [HT.out, E9.out]; exact hO2, hB2⟩
        case measure => simp [intOf]
    | zero =>
      have ei : (((0 : Nat) : Int) - 1) = -1 := by omega
      rw [ei]
      clear ei
      rw [Nat.sub_zero] at hO
      have hmem := turned_mem l
      have hS := splitL_mem hmem
      have hU := unionL_mem hmem
      have hTl := turned_len l l.length (Nat.le_refl _)
      generalize turned l l.length = M at hO hmem hS hU hTl
      have hM24 : M.length ≤ 24 := by omega
      clear hTl
      obtain ⟨am, cm, rfl, hdm⟩ := owned_rowB hO.out
      have HDm := Lib.hid hdm
      have HSp := Lib.hid (fun W (hB : Below w.heap.size w W) => split_any HS s cs l W (HG.out.below (Nat.le_refl _) hB) (HD.out.below hB (Nat.le_refl _)) (by omega))
      have HSq := Lib.hid (fun W (hB1 : Below w.heap.size w W) (hB : Below wr.heap.size wr W) => split_any HS am cm M W (HG.out.below (Nat.le_refl _) hB1) (HDm.out.below hB (Nat.le_refl _)) (by omega))
      have HUl := Lib.hid (fun W (hB : Below w.heap.size w W) => union_any s cs l W (HD.out.below hB (Nat.le_refl _)) (by omega))
      have HUm := Lib.hid (fun W (hB : Below wr.heap.size wr W) => union_any am cm M W (HDm.out.below hB (Nat.le_refl _)) (by omega))
      rw [← hS] at HSq
      rw [← hU] at HUm
      have HSl : Hid (splitL l = splitL l) := Lib.hid rfl
      obtain ⟨L, hL⟩ : ∃ L, L = splitL l := ⟨_, rfl⟩
      obtain ⟨u, hu⟩ : ∃ u, u = unionL l := ⟨_, rfl⟩
      have hLl := splitL_len l
      rw [← hL] at HSp HSq hLl
      rw [← hu] at HUl HUm
      have HL := Lib.hid hL
      obtain ⟨hL1, hL2⟩ := hLl
      clear hdm hmem hS hU hu hL HSl
      have hLn : ((L.length : Int) != (L.length : Int)) = false := by simp
      have hBr := Lib.hid hB.out
      clear hO hB
      go_wp2_with fail
      refine (HSp.out wr hBr.out).mono ?_
      rintro e w1 ⟨v1, rfl, hO1, hB1⟩
      obtain ⟨a1, c1, rfl, _⟩ := owned_rowB hO1
      obtain ⟨g1, rfl⟩ := ownsRow_pos hO1 hL2
      have HO1 := Lib.hid hO1
      have HB1 := Lib.hid (hBr.out.trans (hB1.mono hBr.out.size))
      have HM1 := Lib.hid hB1
      clear hO1 hB1
      go_wp2_with fail
      refine (HSq.out w1 HB1.out HM1.out).mono ?_
      rintro e w2 ⟨v2, rfl, hO2, hB2⟩
      obtain ⟨a2, c2, rfl, _⟩ := owned_rowB hO2
      obtain ⟨g2, rfl⟩ := ownsRow_pos hO2 hL2
      have HO1' := Lib.hid (own_below HO1.out hB2 (Nat.le_refl _))
      have HO2 := Lib.hid hO2
      have HB2 := Lib.hid (HB1.out.trans (hB2.mono HB1.out.size))
      have HM2 := Lib.hid (HM1.out.trans (hB2.mono HM1.out.size))
      clear hO2 hB2 HO1 HB1 HM1
      have HE0 := eq_sets u u
      have hbb0 : (u == u) = true := by simp
      rw [hbb0] at HE0
      clear hbb0
      unfold vset at HUl HUm
      go_wp2_with fail
      refine (HUl.out w2 HB2.out).mono ?_
      rintro e w3 ⟨rfl, hB3⟩
      have HO1'' := Lib.hid (own_below HO1'.out hB3 (Nat.le_refl _))
      have HO2' := Lib.hid (own_below HO2.out hB3 (Nat.le_refl _))
      have HB3 := Lib.hid (HB2.out.trans (hB3.mono HB2.out.size))
      have HM3 := Lib.hid (HM2.out.trans (hB3.mono HM2.out.size))
      clear hB3 HO1' HO2 HB2 HM2
      go_wp2_with fail
      refine (HUm.out w3 HM3.out).mono ?_
      rintro e w4 ⟨rfl, hB4⟩
      have HO14 := Lib.hid (own_below HO1''.out hB4 (Nat.le_refl _))
      have HO24 := Lib.hid (own_below HO2'.out hB4 (Nat.le_refl _))
      have HB4 := Lib.hid (HB3.out.trans (hB4.mono HB3.out.size))
      clear hB4 HO1'' HO2' HB3 HM3 HUl HUm HSq HDm
      go_wp2
      go_loopw [7] (fun i wr => ∃ k : Nat, i = .int .i64 k ∧ k ≤ L.length ∧ Hid (Below w4.heap.size w4 wr))
        (fun i _ => L.length - (intOf i).toNat)
      case atStart => exact ⟨0, rfl, Nat.zero_le _, Below.refl _ _⟩
      case round =>
        obtain ⟨k, rfl, hk, hW⟩ := hrel
        by_cases hlt : k < L.length
        · have HX : Hid (L[k]? = some L[k]) := Lib.hid (List.getElem?_eq_getElem hlt)
          obtain ⟨x, hx⟩ : ∃ x, L[k] = x := ⟨_, rfl⟩
          rw [hx] at HX
          clear hx
          obtain ⟨p0, p1, p2, p3⟩ := cellsB_at L k x HX.out
          have hO1w := own_below HO14.out hW.out (Nat.le_refl _)
          have hO2w := own_below HO24.out hW.out (Nat.le_refl _)
          have c0 : wr.cell? ⟨g1, k * 4, none⟩ = some (.int .u64 (wdI x 0)) := (hO1w.cellAt (k * 4) (by omega)).trans p0
          have c1' : wr.cell? ⟨g1, k * 4 + 1, none⟩ = some (.int .u64 (wdI x 1)) := (hO1w.cellAt (k * 4 + 1) (by omega)).trans p1
          have c2' : wr.cell? ⟨g1, k * 4 + 2, none⟩ = some (.int .u64 (wdI x 2)) := (hO1w.cellAt (k * 4 + 2) (by omega)).trans p2
          have c3' : wr.cell? ⟨g1, k * 4 + 3, none⟩ = some (.int .u64 (wdI x 3)) := (hO1w.cellAt (k * 4 + 3) (by omega)).trans p3
          have d0 : wr.cell? ⟨g2, k * 4, none⟩ = some (.int .u64 (wdI x 0)) := (hO2w.cellAt (k * 4) (by omega)).trans p0
          have d1 : wr.cell? ⟨g2, k * 4 + 1, none⟩ = some (.int .u64 (wdI x 1)) := (hO2w.cellAt (k * 4 + 1) (by omega)).trans p1
          have d2 : wr.cell? ⟨g2, k * 4 + 2, none⟩ = some (.int .u64 (wdI x 2)) := (hO2w.cellAt (k * 4 + 2) (by omega)).trans p2
          have d3 : wr.cell? ⟨g2, k * 4 + 3, none⟩ = some (.int .u64 (wdI x 3)) := (hO2w.cellAt (k * 4 + 3) (by omega)).trans p3
          have HE := eq_sets x x
          have hbb : (x == x) = true := by simp
          rw [hbb] at HE
          clear hbb p0 p1 p2 p3 hO1w hO2w
          have n1 : (k : Int) < (L.length : Int) := by omega
          have n0 : (0 : Int) ≤ (k : Int) := Int.natCast_nonneg _
          go_wp2
          go_region
          all_goals
            go_wp2
            go_roundw
            case rel => exact ⟨k + 1, by go_num, by omega, hW.out.drew⟩
            case measure => simp [intOf]; omega
        · obtain rfl : k = L.length := by omega
          have HO1r := Lib.hid (own_below HO14.out hW.out (Nat.le_refl _))
          have HBr2 := Lib.hid (HB4.out.trans (hW.out.mono HB4.out.size))
          clear hW HO14 HO24 HB4 HE0
          by_cases hl0 : l.length = 0
          · have e0 : ((l.length : Int) == 0) = true := by rw [beq_iff_eq]; omega
            have hLe : L.length = 1 := by
              have hnil : l = [] := List.length_eq_zero_iff.1 hl0
              rw [HL.out, hnil]
              exact split_nil
            have e1 : ((L.length : Int) == 1) = true := by rw [beq_iff_eq]; omega
            clear hLe hl0
            have HW := Lib.hid (works_any wr (HG.out.below (Nat.le_refl _) HBr2.out))
            go_wp2_with fail
            refine HW.out.mono ?_
            rintro e w9 ⟨rfl, hb9⟩
            have HB9 := Lib.hid (HBr2.out.trans (hb9.mono HBr2.out.size))
            clear hb9
            go_wp2
            go_ret
            exact ⟨rfl, HB9.out⟩
          · have e0 : ((l.length : Int) == 0) = false := by rw [beq_eq_false_iff_ne]; omega
            obtain ⟨a, t, hl⟩ : ∃ a t, l = a :: t := by
              cases l with
              | nil => exact absurd rfl hl0
              | cons a t => exact ⟨a, t, rfl⟩
            have hd1 := HD.out
            rw [hl] at hd1
            obtain ⟨b, off, rfl, hdt⟩ := hd1.drop
            have htl : t.length + 1 = l.length := by rw [hl]; simp
            have Hl := Lib.hid hl
            have HDt := Lib.hid hdt
            have Hd1 := Lib.hid hd1
            have n1 : (1 : Int) ≤ (l.length : Int) := by omega
            have n2 : (l.length : Int) ≤ (cs : Int) := by omega
            have hlen := fewer_len a t
            rw [← hl, ← HL.out] at hlen
            have hpf : Hid (∀ (k : Nat) (p : BS), L[k]? = some p → ∃ i : Nat, i < (splitL t).length ∧ ∀ m q, (splitL t)[m]? = some q → ((p &&& q == p) = decide (m = i))) := by
              refine Lib.hid fun k p hp => part_fewer (a := a) (l := t) ?_
              rw [HL.out, hl] at hp
              exact ((splitL_parts (a :: t)).1 p).1 (List.mem_of_getElem? hp)
            obtain ⟨hF1, hF2⟩ := splitL_len t
            have HSf := Lib.hid (fun W a' c' (hd : RowB W a' t) (hB : Below w.heap.size w W) => split_any HS a' c' t W (HG.out.below (Nat.le_refl _) hB) hd (by omega))
            rw [show t.length = l.length - 1 by omega] at HSf
            obtain ⟨F, hF⟩ : ∃ F, F = splitL t := ⟨_, rfl⟩
            rw [← hF] at HSf hlen hF1 hF2 hpf
            clear hl hdt hd1 hl0 hF
            have Htl := Lib.hid htl
            clear htl
            obtain ⟨wo, rfl⟩ : ∃ wo : World, wo = wr := ⟨_, rfl⟩
            go_upto_region 18 with fail
            go_cut [8] (fun s8 wx => ∃ g3 c3, s8 = .slice (some ⟨g3, 0, none⟩) F.length c3 ∧ Hid (wx.ownsRow wo.heap.size 29 4 (.slice (some ⟨g3, 0, none⟩) F.length c3) F.length (cellsB F)) ∧ Hid (Below wo.heap.size wo wx))
            case first =>
              by_cases hcs : cs = 1
              · subst hcs
                have n3 : (l.length : Int) ≤ 1 := by omega
                clear n2
                go_wp2_with fail
                have hd2 : RowB wo (some ⟨b, off, none⟩) t := by
                  have h0 : t = [] := List.length_eq_zero_iff.1 (by have := Htl.out; omega)
                  subst h0
                  exact fun i x hx => by simp at hx
                have hS0 := HSf.out wo (some ⟨b, off, none⟩) 0 hd2 HBr2.out
                rw [show l.length - 1 = 0 by omega] at hS0
                refine hS0.mono ?_
                rintro e w5 ⟨v5, rfl, hO5, hB5⟩
                obtain ⟨a5, c5, rfl, _⟩ := owned_rowB hO5
                obtain ⟨g5, rfl⟩ := ownsRow_pos hO5 hF2
                have HO5 := Lib.hid hO5
                have HB5 := Lib.hid hB5
                clear hO5 hB5
                go_wp2
                go_meet
                exact ⟨g5, c5, rfl, HO5, HB5⟩
              · go_wp2_with fail
                refine (HSf.out wo _ _ (HDt.out.below HBr2.out (Nat.le_refl _)) HBr2.out).mono ?_
                rintro e w5 ⟨v5, rfl, hO5, hB5⟩
                obtain ⟨a5, c5, rfl, _⟩ := owned_rowB hO5
                obtain ⟨g5, rfl⟩ := ownsRow_pos hO5 hF2
                have HO5 := Lib.hid hO5
                have HB5 := Lib.hid hB5
                clear hO5 hB5
                go_wp2
                go_meet
                exact ⟨g5, c5, rfl, HO5, HB5⟩
            case rest =>
              obtain ⟨g3, c3, rfl, hO3, hB3⟩ := hcut
              obtain ⟨wb, rfl⟩ : ∃ wb : World, wb = wc := ⟨_, rfl⟩
              have HO1b := Lib.hid (own_below HO1r.out hB3.out (Nat.le_refl _))
              have HBb := Lib.hid (HBr2.out.trans (hB3.out.mono HBr2.out.size))
              have hO3b := Lib.hid hO3.out
              clear HO1r HBr2 hB3 hO3 HSf HSp HDt Hd1 HD
              go_wp2
              go_loopw [9] (fun i wr => ∃ k : Nat, i = .int .i64 k ∧ k ≤ L.length ∧ Hid (Below wb.heap.size wb wr))
                (fun i _ => L.length - (intOf i).toNat)
              case atStart => exact ⟨0, rfl, Nat.zero_le _, Below.refl _ _⟩
              case round =>
                obtain ⟨k, rfl, hk, hW⟩ := hrel
                by_cases hlt : k < L.length
                · have HX : Hid (L[k]? = some L[k]) := Lib.hid (List.getElem?_eq_getElem hlt)
                  obtain ⟨x, hx⟩ : ∃ x, L[k] = x := ⟨_, rfl⟩
                  rw [hx] at HX
                  clear hx
                  obtain ⟨idx, hidx, hone⟩ := hpf.out k x HX.out
                  have HOne := Lib.hid hone
                  obtain ⟨p0, p1, p2, p3⟩ := cellsB_at L k x HX.out
                  have P0 := Lib.hid p0
                  have P1 := Lib.hid p1
                  have P2 := Lib.hid p2
                  have P3 := Lib.hid p3
                  clear hone p0 p1 p2 p3
                  obtain ⟨wi, rfl⟩ : ∃ wi : World, wi = wr := ⟨_, rfl⟩
                  go_wp2
                  go_loopw [10, 11] (fun n i wr => ∃ m : Nat, i = .int .i64 m ∧ m ≤ F.length ∧ n = .int .i64 (cin idx m : Nat) ∧ Hid (Below wi.heap.size wi wr))
                    (fun _ i _ => F.length - (intOf i).toNat)
                  case atStart => exact ⟨0, rfl, Nat.zero_le _, by rw [cin_zero]; rfl, Below.refl _ _⟩
                  case round =>
                    obtain ⟨m, rfl, hm, rfl, hV⟩ := hrel
                    have hcl := cin_le idx m
                    by_cases hmlt : m < F.length
                    · have HY : Hid (F[m]? = some F[m]) := Lib.hid (List.getElem?_eq_getElem hmlt)
                      obtain ⟨y, hy⟩ : ∃ y, F[m] = y := ⟨_, rfl⟩
                      rw [hy] at HY
                      clear hy
                      obtain ⟨q0, q1, q2, q3⟩ := cellsB_at F m y HY.out
                      have HZ := Lib.hid (HOne.out m y HY.out)
                      have HW0 := within_any x y
                      have HKeep : Hid (∀ W W', Below wi.heap.size wi W → Below W.heap.size W W' → Below wi.heap.size wi W' ∧ (W'.cell? ⟨g1, k * 4, none⟩ = some (.int .u64 (wdI x 0)) ∧ W'.cell? ⟨g1, k * 4 + 1, none⟩ = some (.int .u64 (wdI x 1)) ∧ W'.cell? ⟨g1, k * 4 + 2, none⟩ = some (.int .u64 (wdI x 2)) ∧ W'.cell? ⟨g1, k * 4 + 3, none⟩ = some (.int .u64 (wdI x 3))) ∧ (W'.cell? ⟨g3, m * 4, none⟩ = some (.int .u64 (wdI y 0)) ∧ W'.cell? ⟨g3, m * 4 + 1, none⟩ = some (.int .u64 (wdI y 1)) ∧ W'.cell? ⟨g3, m * 4 + 2, none⟩ = some (.int .u64 (wdI y 2)) ∧ W'.cell? ⟨g3, m * 4 + 3, none⟩ = some (.int .u64 (wdI y 3)))) := by
                        refine Lib.hid fun W W' h1 h2 => ?_
                        have h3 := h1.trans (h2.mono h1.size)
                        have h4 := hW.out.trans (h3.mono hW.out.size)
                        have hO1w := own_below HO1b.out h4 (Nat.le_refl _)
                        have hO3w := own_below hO3b.out h4 (Nat.le_refl _)
                        exact ⟨h3, ⟨(hO1w.cellAt (k * 4) (by omega)).trans P0.out, (hO1w.cellAt (k * 4 + 1) (by omega)).trans P1.out, (hO1w.cellAt (k * 4 + 2) (by omega)).trans P2.out, (hO1w.cellAt (k * 4 + 3) (by omega)).trans P3.out⟩, (hO3w.cellAt (m * 4) (by omega)).trans q0, (hO3w.cellAt (m * 4 + 1) (by omega)).trans q1, (hO3w.cellAt (m * 4 + 2) (by omega)).trans q2, (hO3w.cellAt (m * 4 + 3) (by omega)).trans q3⟩
                      clear q0 q1 q2 q3
                      obtain ⟨_, ⟨c0, c1', c2', c3'⟩, d0, d1, d2, d3⟩ := HKeep.out wr wr hV.out (Below.refl _ wr)
                      have n1' : (k : Int) < (L.length : Int) := by omega
                      have n0' : (0 : Int) ≤ (k : Int) := Int.natCast_nonneg _
                      have n2' : (m : Int) < (F.length : Int) := by omega
                      have n3' : (0 : Int) ≤ (m : Int) := Int.natCast_nonneg _
                      by_cases hmi : m = idx
                      · have hz : (x &&& y == x) = true := by rw [HZ.out]; simp [hmi]
                        rw [hz] at HW0
                        unfold vset at HW0
                        have HW := fun w' => Lib.hid (HW0 w')
                        have HC : Hid (cin idx (m + 1) = cin idx m + 1) := by
                          refine Lib.hid ?_
                          rw [hmi, (cin_yes idx).1, (cin_yes idx).2]
                        have Hmi := Lib.hid hmi
                        clear HW0 hz hmi
                        go_wp2_with fail
                        go_region_held3 (fun W => (W.cell? ⟨g1, k * 4, none⟩ = some (.int .u64 (wdI x 0)) ∧ W.cell? ⟨g1, k * 4 + 1, none⟩ = some (.int .u64 (wdI x 1)) ∧ W.cell? ⟨g1, k * 4 + 2, none⟩ = some (.int .u64 (wdI x 2)) ∧ W.cell? ⟨g1, k * 4 + 3, none⟩ = some (.int .u64 (wdI x 3))) ∧ (W.cell? ⟨g3, m * 4, none⟩ = some (.int .u64 (wdI y 0)) ∧ W.cell? ⟨g3, m * 4 + 1, none⟩ = some (.int .u64 (wdI y 1)) ∧ W.cell? ⟨g3, m * 4 + 2, none⟩ = some (.int .u64 (wdI y 2)) ∧ W.cell? ⟨g3, m * 4 + 3, none⟩ = some (.int .u64 (wdI y 3)))) (go_keep)
                          (first | (go_at_call 30; (with_reducible refine (HW _).out.mono ?_); rintro e w' ⟨rfl, hB1⟩; obtain ⟨hBx, ⟨e0', e1', e2', e3'⟩, e4', e5', e6', e7'⟩ := HKeep.out _ _ (by first | assumption | exact hV.out.drew) hB1; clear hB1))
                        all_goals
                          have HBX := Lib.hid hBx
                          clear e0' e1' e2' e3' e4' e5' e6' e7' hBx
                          go_wp2
                          go_roundw
                          case rel => exact ⟨m + 1, by go_num, by omega, by rw [HC.out]; go_num, HBX⟩
                          case measure => simp [intOf]; omega
                      · have hz : (x &&& y == x) = false := by rw [HZ.out]; simp [hmi]
                        rw [hz] at HW0
                        unfold vset at HW0
                        have HW := fun w' => Lib.hid (HW0 w')
                        have HC : Hid (cin idx (m + 1) = cin idx m) := Lib.hid (cin_no hmi)
                        clear HW0 hz hmi
                        go_wp2_with fail
                        go_region_held3 (fun W => (W.cell? ⟨g1, k * 4, none⟩ = some (.int .u64 (wdI x 0)) ∧ W.cell? ⟨g1, k * 4 + 1, none⟩ = some (.int .u64 (wdI x 1)) ∧ W.cell? ⟨g1, k * 4 + 2, none⟩ = some (.int .u64 (wdI x 2)) ∧ W.cell? ⟨g1, k * 4 + 3, none⟩ = some (.int .u64 (wdI x 3))) ∧ (W.cell? ⟨g3, m * 4, none⟩ = some (.int .u64 (wdI y 0)) ∧ W.cell? ⟨g3, m * 4 + 1, none⟩ = some (.int .u64 (wdI y 1)) ∧ W.cell? ⟨g3, m * 4 + 2, none⟩ = some (.int .u64 (wdI y 2)) ∧ W.cell? ⟨g3, m * 4 + 3, none⟩ = some (.int .u64 (wdI y 3)))) (go_keep)
                          (first | (go_at_call 30; (with_reducible refine (HW _).out.mono ?_); rintro e w' ⟨rfl, hB1⟩; obtain ⟨hBx, ⟨e0', e1', e2', e3'⟩, e4', e5', e6', e7'⟩ := HKeep.out _ _ (by first | assumption | exact hV.out.drew) hB1; clear hB1))
                        all_goals
                          have HBX := Lib.hid hBx
                          clear e0' e1' e2' e3' e4' e5' e6' e7' hBx
                          go_wp2
                          go_roundw
                          case rel => exact ⟨m + 1, by go_num, by omega, by rw [HC.out], HBX⟩
                          case measure => simp [intOf]; omega
                    · obtain rfl : m = F.length := by omega
                      have HV2 := Lib.hid (hW.out.trans (hV.out.mono hW.out.size))
                      rw [cin_end hidx]
                      clear hcl hV HOne P0 P1 P2 P3
                      go_wp2
                      go_roundw
                      case rel => exact ⟨k + 1, by go_num, by omega, HV2⟩
                      case measure => simp [intOf]; omega
                · obtain rfl : k = L.length := by omega
                  have HBz := Lib.hid (HBb.out.trans (hW.out.mono HBb.out.size))
                  have HW := Lib.hid (works_any wr (HG.out.below (Nat.le_refl _) HBz.out))
                  have f1 : decide ((F.length : Int) ≤ (L.length : Int)) = true := by rw [decide_eq_true_iff]; omega
                  clear hpf HBb hO3b HO1b
                  go_wp2_with fail
                  refine HW.out.mono ?_
                  rintro e w9 ⟨rfl, hb9⟩
                  have HB9 := Lib.hid (HBz.out.trans (hb9.mono HBz.out.size))
                  clear hb9
                  go_wp2
                  go_ret
                  exact ⟨rfl, HB9.out⟩

theorem lawOrder (HS : SortsS) (s : Option Addr) (cs : Nat) (l : List BS) (w : World) (hG : Glob w) (hd : RowB w s l) (hls : l.length ≤ cs) :
    Calls Tryd.prog 9 #[.slice s l.length cs] w fun e w' => e = .returned (.bool true) ∧ Below w.heap.size w w' := by
  by_cases h : l.length ≤ 12
  · exact lawOrder_any HS s cs l w hG hd hls h
  · exact lawOrder_long s cs l w hG (by omega)
end Go.Proofs.YtegmoeeeomjkgaaDoor
end
