import Derived.Test.YtegmoeeeomjkgaaDoorJn2
namespace Go.Proofs.YtegmoeeeomjkgaaDoor
open Go Go.RowKit Go.Vals

theorem cell_lt1 {w : World} {a : Addr} {v : Value} (h : w.cell? a = some v) : a.block < w.heap.size := by
  unfold World.cell? at h
  by_cases hb : a.block < w.heap.size
  · exact hb
  · simp [Array.getElem?_eq_none (Nat.le_of_not_lt hb)] at h

set_option maxRecDepth 100000 in
set_option maxHeartbeats 4000000 in
theorem lawJoins_long (a b : BS) (s : Option Addr) (cs : Nat) (l : List BS) (w : World) (hG : Glob w) (h : 30 < l.length) :
    Calls Tryd.prog 4 #[vset a, vset b, .slice s l.length cs] w fun e w' => e = .returned (.bool true) ∧ Below w.heap.size w w' := by
  have HW : Hid (∀ W, Below w.heap.size w W → Calls Tryd.prog 10 #[] W fun e w' => e = .returned (.bool true) ∧ Below W.heap.size W w') := fun W hB => works_any W (hG.below (Nat.le_refl _) hB)
  clear hG
  have h1' : (30 : Int) < l.length := by omega
  have hB0 : Below w.heap.size w ((w.alloc (.cells (cset a) 29)).alloc (.cells (cset b) 29)) := ((Below.refl _ w).alloc (Nat.le_refl _) _).alloc (by simp) _
  have HB0 := Lib.hid hB0
  clear h hB0
  unfold vset
  go_enter Tryd.func4, Tryd.ntmps4
  go_wp2_with fail
  refine (HW.out _ HB0.out).mono ?_
  rintro e w1 ⟨rfl, hB⟩
  have HB := Lib.hid (HB0.out.trans (hB.mono HB0.out.size))
  clear hB HW HB0
  go_wp2
  go_ret
  exact ⟨rfl, HB.out⟩

set_option maxRecDepth 100000 in
set_option maxHeartbeats 16000000 in
theorem lawJoins_any (a b : BS) (s : Option Addr) (cs : Nat) (l : List BS) (w : World) (hG : Glob w) (hd : RowB w s l) (hcs : s = none → cs = 0) (hls : l.length ≤ cs) (h1 : l.length ≤ 30) :
    Calls Tryd.prog 4 #[vset a, vset b, .slice s l.length cs] w fun e w' => e = .returned (.bool true) ∧ Below w.heap.size w w' := by
  obtain ⟨iB, hiB, hzB0, hzB1, hzB2⟩ := info_parts Tryd.info29
  have HG := Lib.hid hG
  have HD := Lib.hid hd
  clear hG hd
  have h1' : ¬ (30 : Int) < l.length := by omega
  have HAll0 := all_any
  unfold vset at HAll0 ⊢
  have HAll := fun w' => Lib.hid (HAll0 w')
  clear HAll0
  go_enter Tryd.func4, Tryd.ntmps4
  try simp only [List.append_eq, List.cons_append, List.nil_append]
  go_upto_region 3 with fail
  have hA0 := Lib.hid ((Blk.new w 29 (cset a)).alloc (.cells (cset b) 29))
  have hAb0 := Blk.new (w.alloc (.cells (cset a) 29)) 29 (cset b)
  rw [World.size_alloc] at hAb0
  have hAb := Lib.hid hAb0
  have hBw : Hid (Below w.heap.size w ((w.alloc (.cells (cset a) 29)).alloc (.cells (cset b) 29))) := ((Below.refl _ w).alloc (Nat.le_refl _) _).alloc (by simp) _
  obtain ⟨nA, hnA⟩ : ∃ nA, nA = w.heap.size := ⟨_, rfl⟩
  obtain ⟨nB, hnB⟩ : ∃ nB, nB = w.heap.size + 1 := ⟨_, rfl⟩
  obtain ⟨w0, hw0⟩ : ∃ w0 : World, w0 = (w.alloc (.cells (cset a) 29)).alloc (.cells (cset b) 29) := ⟨_, rfl⟩
  have hw2 : (w.alloc (.cells #[.int .u64 (wdI a 0), .int .u64 (wdI a 1), .int .u64 (wdI a 2), .int .u64 (wdI a 3)] 29)).alloc (.cells #[.int .u64 (wdI b 0), .int .u64 (wdI b 1), .int .u64 (wdI b 2), .int .u64 (wdI b 3)] 29) = w0 := hw0.symm
  rw [← hw0] at hA0 hAb hBw
  rw [hw2]
  rw [← hnA] at hA0
  rw [← hnB] at hAb
  have e1 : (.pointer (some ⟨w.heap.size + 1, 0, none⟩) : Value) = .pointer (some ⟨nB, 0, none⟩) := by rw [hnB]
  have e2 : (.pointer (some ⟨w.heap.size, 0, none⟩) : Value) = .pointer (some ⟨nA, 0, none⟩) := by rw [hnA]
  rw [e1, e2]
  clear e1 e2 hAb0 hw0 hw2 hnA hnB
  go_cut [7] (fun s7 wx => ∃ g c, s7 = .slice (some ⟨g, 0, none⟩) l.length c ∧ Hid (Sent w0.heap.size 29 4 (cellsB l) (cset full).toList l.length g c wx) ∧ Hid (Below w0.heap.size w0 wx))
  case first =>
    as_aux_lemma =>
    have hE0 := World.ownsRow_lit (base := w0.heap.size) (e := 29) (size := 4) w0 #[] 0 (Nat.le_refl _) (by decide) rfl
    have HD2 := Lib.hid (HD.out.below hBw.out (Nat.le_refl _))
    cases s with
    | none =>
      obtain rfl := row_none_B HD.out
      obtain rfl : cs = 0 := hcs rfl
      go_wp2_with (first
        | (at_builtin; refine wpList_append_own_none rfl (.tmp 23) (.tmp 24) 43 rfl w0.heap.size 29 iB 4 Tryd.underlying43 hiB _ _ _ rfl hE0 rfl ?_)
        | (go_at_call 18; (with_reducible refine (HAll _).out.mono ?_); rintro e w1 ⟨rfl, hBA⟩; have hE1 := own_below hE0 hBA (Nat.le_refl _); have hsz1 := hBA.size)
        | (at_builtin; refine wpList_append_own _ rfl (.tmp 25) (.tmp 27) 43 rfl w0.heap.size 29 iB _ 4 32 Tryd.underlying43 hiB hzB0 hzB1 hzB2 rfl (by decide) _ _ _ rfl (hE1.alloc _) ⟨w1.heap.size, 0, none⟩ 1 1 [.int .u64 (wdI full 0), .int .u64 (wdI full 1), .int .u64 (wdI full 2), .int .u64 (wdI full 3)] rfl rfl (cell_four_new w1 _ _ _ _ 29) (by simp [Value.oneCell']) (by unfold maxLen; omega) (by omega) (by simp at hsz1 ⊢; omega) ?_; intro v2 w3 hown2 hgrow2 _))
      have hB1 : Below w0.heap.size w0 w1 := ((Below.refl _ w0).alloc (Nat.le_refl _) _).trans (hBA.mono (by simp))
      have hB3 : Hid (Below w0.heap.size w0 w3) := (hB1.alloc hB1.size _).grown hgrow2 (le_alloc hB1.size _) (fun k e => ((hE1.alloc (.cells (cset full) 29)).lt k e).1)
      obtain ⟨g, c, rfl, hM⟩ := Sent.of (xs := cellsB []) (last := (cset full).toList) hown2
      have hc2 : (0 : Int) ≤ (c : Int) := by omega
      have HM := Lib.hid hM
      clear hown2 hgrow2 hM hE0 hE1 hB1 hBA hsz1
      go_simp
      go_wp2_with fail
      go_meet
      exact ⟨g, c, rfl, HM, hB3⟩
    | some ad =>
      go_wp2_with (first
        | (at_builtin; refine wpList_append_own _ rfl (.tmp 23) (.tmp 24) 43 rfl w0.heap.size 29 iB _ 4 32 Tryd.underlying43 hiB hzB0 hzB1 hzB2 rfl (by decide) _ _ _ rfl hE0 ad l.length cs (cellsB l) rfl (cellsB_length l) (fun j u hu => (World.cell?_alloc_lt w0 _ _ (by have := news_B HD2.out j u hu; exact cell_lt1 this)).trans (news_B HD2.out j u hu)) (one_B l) (by unfold maxLen; omega) (by omega) (by simp) ?_; intro v1 w2 hown1 hgrow1 _)
        | (go_at_call 18; (with_reducible refine (HAll _).out.mono ?_); rintro e w1 ⟨rfl, hBA⟩; have hE1 := own_below hown1 hBA (Nat.le_refl _); have hsz1 := hBA.size; have hsz2 := hgrow1.size)
        | (at_builtin; refine wpList_append_own _ rfl (.tmp 25) (.tmp 27) 43 rfl w0.heap.size 29 iB _ 4 32 Tryd.underlying43 hiB hzB0 hzB1 hzB2 rfl (by decide) _ _ _ rfl (World.ownsRow.alloc hE1 _) ⟨w1.heap.size, 0, none⟩ 1 1 [.int .u64 (wdI full 0), .int .u64 (wdI full 1), .int .u64 (wdI full 2), .int .u64 (wdI full 3)] rfl rfl (cell_four_new w1 _ _ _ _ 29) (by simp [Value.oneCell']) (by unfold maxLen; omega) (by omega) (by simp at hsz1 hsz2 ⊢; omega) ?_; intro v2 w3 hown2 hgrow2 _))
      have hB2 : Below w0.heap.size w0 w2 := ((Below.refl _ w0).alloc (Nat.le_refl _) _).grown hgrow1 (by simp) (fun k e => (hE0.lt k e).1)
      have hB1 : Below w0.heap.size w0 w1 := hB2.trans (hBA.mono hB2.size)
      have hB3 : Hid (Below w0.heap.size w0 w3) := (hB1.alloc hB1.size _).grown hgrow2 (le_alloc hB1.size _) (fun k e => (hE1.lt k e).1)
      obtain ⟨g, c, rfl, hM⟩ := Sent.of (n := l.length) (xs := cellsB l) (last := (cset full).toList) (by simpa [cset] using hown2)
      have hc1 := hM.2
      have hc2 : (l.length : Int) ≤ (c : Int) := by omega
      have hc3 : (0 : Int) ≤ (l.length : Int) := by omega
      have hc4 : l.length ≤ c := by omega
      have HM := Lib.hid hM
      clear hown2 hgrow2 hown1 hgrow1 hM hE0 hE1 hB1 hB2 hBA hsz1 hsz2
      go_simp
      go_wp2_with fail
      go_meet
      exact ⟨g, c, rfl, HM, hB3⟩
  case rest =>
    obtain ⟨wb, rfl⟩ : ∃ wb : World, wb = wc := ⟨_, rfl⟩
    obtain ⟨g, c, rfl, hM, hB⟩ := hcut
    have hA1 := Lib.hid (hA0.out.below hB.out hA0.out.lt)
    have hAb1 := Lib.hid (hAb.out.below hB.out hAb.out.lt)
    have hBB := Lib.hid (hBw.out.trans (hB.out.mono hBw.out.size))
    clear hA0 hAb hB
    have K1 := fun (W : World) (h : RowB W (some ⟨g, 0, none⟩) l) => Lib.hid (union_any (some ⟨g, 0, none⟩) c l W h (by omega))
    obtain ⟨uu, huu⟩ : ∃ uu, uu = unionL l := ⟨_, rfl⟩
    rw [← huu] at K1
    have HUU := Lib.hid huu
    clear huu
    unfold vset at K1
    go_wp2_with fail
    refine (K1 _ (hM.out.rowB rfl)).out.mono ?_
    rintro e w1 ⟨rfl, hB1⟩
    have hM1 := Lib.hid (hM.out.below hB1 (Nat.le_refl _))
    have hA2 := Lib.hid (hA1.out.below hB1 hA1.out.lt)
    have hAb2 := Lib.hid (hAb1.out.below hB1 hAb1.out.lt)
    have hBC := Lib.hid (hBB.out.trans (hB1.mono hBB.out.size))
    clear hM hA1 hAb1 hBB hB1 K1
    go_wp2
    have aW : Hid (Below w1.heap.size w1 (w1.alloc (.cells (cset uu) 29))) := (Below.refl _ w1).alloc (Nat.le_refl _) _
    have HM := Lib.hid (hM1.out.below aW.out (Nat.le_refl _))
    have HA := Lib.hid (hA2.out.alloc (.cells (cset uu) 29))
    have HAb := Lib.hid (hAb2.out.alloc (.cells (cset uu) 29))
    have HU := Lib.hid (Blk.new w1 29 (cset uu))
    have HB : Hid (Below w.heap.size w (w1.alloc (.cells (cset uu) 29))) := hBC.out.alloc hBC.out.size _
    clear aW hM1 hA2 hAb2 hBC
    obtain ⟨nU, hnU⟩ : ∃ nU, nU = w1.heap.size := ⟨_, rfl⟩
    obtain ⟨wL, hwL⟩ : ∃ wL : World, wL = w1.alloc (.cells (cset uu) 29) := ⟨_, rfl⟩
    have hwL2 : w1.alloc (.cells #[.int .u64 (wdI uu 0), .int .u64 (wdI uu 1), .int .u64 (wdI uu 2), .int .u64 (wdI uu 3)] 29) = wL := hwL.symm
    rw [← hwL] at HM HA HAb HU HB
    rw [hwL2]
    rw [← hnU] at HU ⊢
    clear hwL hwL2 hnU
    go_loopw [9] (fun i wr => ∃ (k : Nat), i = .int .i64 k ∧ k ≤ l.length ∧ Hid (Below wL.heap.size wL wr))
      (fun i _ => l.length - (intOf i).toNat)
    case atStart => exact ⟨0, rfl, Nat.zero_le _, Below.refl _ _⟩
    case round =>
      obtain ⟨k, rfl, hk, hW⟩ := hrel
      by_cases hlt : k < l.length
      · have HX : Hid (l[k]? = some l[k]) := Lib.hid (List.getElem?_eq_getElem hlt)
        obtain ⟨x, hx⟩ : ∃ x, l[k] = x := ⟨_, rfl⟩
        rw [hx] at HX
        clear hx
        have HE := eq_sets x x
        obtain ⟨b', off, rfl, e0, e1, e2, e3⟩ := HD.out k _ HX.out
        have hBt := HB.out.trans (hW.out.mono HB.out.size)
        have r0 : wr.cell? ⟨b', off + k * 4, none⟩ = some (.int .u64 (wdI x 0)) := (hBt.cell (p := ⟨b', _, none⟩) (lt_of_cell e0)).trans e0
        have r1 : wr.cell? ⟨b', off + k * 4 + 1, none⟩ = some (.int .u64 (wdI x 1)) := (hBt.cell (p := ⟨b', _, none⟩) (lt_of_cell e0)).trans e1
        have r2 : wr.cell? ⟨b', off + k * 4 + 2, none⟩ = some (.int .u64 (wdI x 2)) := (hBt.cell (p := ⟨b', _, none⟩) (lt_of_cell e0)).trans e2
        have r3 : wr.cell? ⟨b', off + k * 4 + 3, none⟩ = some (.int .u64 (wdI x 3)) := (hBt.cell (p := ⟨b', _, none⟩) (lt_of_cell e0)).trans e3
        clear e0 e1 e2 e3 hBt
        obtain ⟨b2, off2, hb2, e0, e1, e2, e3⟩ := (HM.out.below hW.out (Nat.le_refl _)).rowB rfl k _ HX.out
        obtain ⟨rfl, rfl⟩ : g = b2 ∧ 0 = off2 := by cases hb2; exact ⟨rfl, rfl⟩
        rw [Nat.zero_add] at e0 e1 e2 e3
        clear hb2
        have hkc : k < c := by have := HM.out.2; omega
        go_wp2
        go_region
        go_wp2
        go_roundw
        case rel => exact ⟨k + 1, by go_num, by omega, hW.out.drew⟩
        case measure => simp [intOf]; omega
      · obtain rfl : k = l.length := by omega
        have HA2 := Lib.hid (HA.out.below hW.out HA.out.lt)
        have HAb2 := Lib.hid (HAb.out.below hW.out HAb.out.lt)
        have HU2 := Lib.hid (HU.out.below hW.out HU.out.lt)
        have HB2 := Lib.hid (HB.out.trans (hW.out.mono HB.out.size))
        clear HM HA HAb HU HB hW hlt hk
        have K2 := fun w' => Lib.hid (rbytes_any a w')
        have K3 := fun w' h => Lib.hid (least_any a w' h)
        have K4 := fun w' h => Lib.hid (ranges_any a w' h)
        have K5 := fun w' => Lib.hid (rranges_any a w')
        have hsm : ∀ x ∈ bytesL a, x < 256 := fun x hx => ((mem_bytesL a x).1 hx).1
        have hlenL := length_bytesL a
        have HCn : Hid (cnt a = (bytesL a).length) := cnt_len a
        obtain ⟨cc, ok, hlv, hcc, hcase⟩ := least_cases (bytesL a) hsm
        have HCase := Lib.hid hcase
        rw [hlv] at K3
        have hrl := rngs_length (bytesL a)
        have KG := fun Bn ad cp lv w' hg hb hl => Lib.hid (goes_any a Bn ad cp lv w' hg hb hl)
        obtain ⟨L, hL⟩ : ∃ L, L = bytesL a := ⟨_, rfl⟩
        rw [← hL] at K2 K4 K5 HCn HCase hlenL hrl KG
        obtain ⟨R, hR⟩ : ∃ R, R = rngs L := ⟨_, rfl⟩
        rw [← hR] at K4 K5 hrl
        have hR2 : R.length ≤ 256 := by omega
        clear hL hR hlv hcase hsm hrl

        unfold vset at K2 K3 K4 K5
        have c0 : wr.cell? ⟨nA, 0, none⟩ = some (.int .u64 (wdI a 0)) := HA2.out.cell 0
        have c1 : wr.cell? ⟨nA, 1, none⟩ = some (.int .u64 (wdI a 1)) := HA2.out.cell 1
        have c2 : wr.cell? ⟨nA, 2, none⟩ = some (.int .u64 (wdI a 2)) := HA2.out.cell 2
        have c3 : wr.cell? ⟨nA, 3, none⟩ = some (.int .u64 (wdI a 3)) := HA2.out.cell 3
        go_wp2_with fail
        refine (K2 _).out.mono ?_
        rintro e w1 ⟨v, rfl, hown, hB1⟩
        obtain ⟨ay, cy, rfl, hrowY⟩ := owned_rowY hown
        have HY := Lib.hid hrowY
        have HA := Lib.hid (HA2.out.below hB1 HA2.out.lt)
        have HAb := Lib.hid (HAb2.out.below hB1 HAb2.out.lt)
        have HU := Lib.hid (HU2.out.below hB1 HU2.out.lt)
        have HB := Lib.hid (HB2.out.trans (hB1.mono HB2.out.size))
        clear HA2 HAb2 HU2 HB2 hown hB1 hrowY K2 c0 c1 c2 c3
        have c0 : w1.cell? ⟨nA, 0, none⟩ = some (.int .u64 (wdI a 0)) := HA.out.cell 0
        have c1 : w1.cell? ⟨nA, 1, none⟩ = some (.int .u64 (wdI a 1)) := HA.out.cell 1
        have c2 : w1.cell? ⟨nA, 2, none⟩ = some (.int .u64 (wdI a 2)) := HA.out.cell 2
        have c3 : w1.cell? ⟨nA, 3, none⟩ = some (.int .u64 (wdI a 3)) := HA.out.cell 3
        go_wp2_with fail
        refine (K3 _ (HG.out.below (Nat.le_refl _) HB.out)).out.mono ?_
        rintro e w2 ⟨rfl, hB1⟩
        have HY2 := Lib.hid (HY.out.below hB1 (Nat.le_refl _))
        have HA2 := Lib.hid (HA.out.below hB1 HA.out.lt)
        have HAb2 := Lib.hid (HAb.out.below hB1 HAb.out.lt)
        have HU2 := Lib.hid (HU.out.below hB1 HU.out.lt)
        have HB2 := Lib.hid (HB.out.trans (hB1.mono HB.out.size))
        clear HA HAb HU HB HY hB1 K3 c0 c1 c2 c3
        go_upto_region 12 with fail
        go_cut [13, 14] (fun s13 s14 wx => s13 = .int .u8 0 ∧ s14 = .bool ok ∧ wx = w2)
        case first =>
          rcases HCase.out with ⟨rfl, rfl, rfl⟩ | ⟨t, rfl, rfl⟩
          · go_wp2_with fail
            go_meet
            exact ⟨rfl, by simp, rfl⟩
          · go_wp2_with fail
            go_meet
            exact ⟨rfl, by simp, rfl⟩
        case rest =>
          obtain ⟨rfl, rfl, rfl⟩ := hcut
          obtain ⟨wx, rfl⟩ : ∃ wx : World, wx = wc := ⟨_, rfl⟩
          go_upto_if 59 with fail
          go_cut [13] (fun s13 wy => s13 = .int .u8 cc ∧ wy = wx)
          case first =>
            rcases HCase.out with ⟨rfl, rfl, rfl⟩ | ⟨t, rfl, rfl⟩
            · go_wp2_with fail
              go_meet
              exact ⟨rfl, rfl⟩
            · obtain ⟨b', off, rfl, e0⟩ := HY2.out 0 cc rfl
              rw [Nat.add_zero] at e0
              go_wp2_with fail
              go_meet
              exact ⟨rfl, rfl⟩
          case rest =>
            obtain ⟨rfl, rfl⟩ := hcut
            obtain ⟨wx, rfl⟩ : ∃ wx : World, wx = wc := ⟨_, rfl⟩
            have c0 : wx.cell? ⟨nA, 0, none⟩ = some (.int .u64 (wdI a 0)) := HA2.out.cell 0
            have c1 : wx.cell? ⟨nA, 1, none⟩ = some (.int .u64 (wdI a 1)) := HA2.out.cell 1
            have c2 : wx.cell? ⟨nA, 2, none⟩ = some (.int .u64 (wdI a 2)) := HA2.out.cell 2
            have c3 : wx.cell? ⟨nA, 3, none⟩ = some (.int .u64 (wdI a 3)) := HA2.out.cell 3
            go_wp2_with fail
            refine (K4 _ (HG.out.below (Nat.le_refl _) HB2.out)).out.mono ?_
            rintro e w3 ⟨v, rfl, hown, _, hB1⟩
            obtain ⟨ar, cr, rfl, hrowR⟩ := owned_rowR hown
            have HR := Lib.hid hrowR
            have HY := Lib.hid (HY2.out.below hB1 (Nat.le_refl _))
            have HA := Lib.hid (HA2.out.below hB1 HA2.out.lt)
            have HAb := Lib.hid (HAb2.out.below hB1 HAb2.out.lt)
            have HU := Lib.hid (HU2.out.below hB1 HU2.out.lt)
            have HB := Lib.hid (HB2.out.trans (hB1.mono HB2.out.size))
            clear HA2 HAb2 HU2 HB2 HY2 hown hB1 hrowR K4 c0 c1 c2 c3
            have c0 : w3.cell? ⟨nA, 0, none⟩ = some (.int .u64 (wdI a 0)) := HA.out.cell 0
            have c1 : w3.cell? ⟨nA, 1, none⟩ = some (.int .u64 (wdI a 1)) := HA.out.cell 1
            have c2 : w3.cell? ⟨nA, 2, none⟩ = some (.int .u64 (wdI a 2)) := HA.out.cell 2
            have c3 : w3.cell? ⟨nA, 3, none⟩ = some (.int .u64 (wdI a 3)) := HA.out.cell 3
            go_wp2_with fail
            refine (K5 _).out.mono ?_
            rintro e w4 ⟨v, rfl, hown, hB1⟩
            obtain ⟨ar2, cr2, rfl, hrowR⟩ := owned_rowR hown
            have HR2 := Lib.hid hrowR
            have HR1 := Lib.hid (HR.out.below hB1 (Nat.le_refl _))
            have HY2 := Lib.hid (HY.out.below hB1 (Nat.le_refl _))
            have HA2 := Lib.hid (HA.out.below hB1 HA.out.lt)
            have HAb2 := Lib.hid (HAb.out.below hB1 HAb.out.lt)
            have HU2 := Lib.hid (HU.out.below hB1 HU.out.lt)
            have HB2 := Lib.hid (HB.out.trans (hB1.mono HB.out.size))
            clear HA HAb HU HB HY HR hown hB1 hrowR K5 c0 c1 c2 c3
            go_wp2_with fail
            have hN : ∀ w : World, Below w.heap.size w w := fun w => Below.refl _ w
            have AA : ∀ W, Below w4.heap.size w4 W → Blk W nA 29 (cset a) := fun W h => HA2.out.below h HA2.out.lt
            have AB : ∀ W, Below w4.heap.size w4 W → Blk W nB 29 (cset b) := fun W h => HAb2.out.below h HAb2.out.lt
            have AU : ∀ W, Below w4.heap.size w4 W → Blk W nU 29 (cset uu) := fun W h => HU2.out.below h HU2.out.lt
            have AF : ∀ W, Below w4.heap.size w4 W → Calls Tryd.prog 25 #[.slice s l.length cs] W fun e W' => e = .returned (vset uu) ∧ Below W.heap.size W W' := fun W h => by
              rw [HUU.out]
              exact runion_any s cs l W (HD.out.below (HB2.out.trans (h.mono HB2.out.size)) (Nat.le_refl _)) (by omega)
            have AN : ∀ W, Calls Tryd.prog 31 #[vset a] W fun e W' => e = .returned (.int .i64 (L.length : Nat)) ∧ Below W.heap.size W W' := fun W => by
              have h := count_any a W
              rw [HCn.out] at h
              exact h
            refine wp_region_vals0 (N := fun W W' => Below W.heap.size W W') (S := fun W => Below w4.heap.size w4 W)
              [.slice ar R.length cr, .int .i64 (R.length : Nat), .slice ar2 R.length cr2, .int .i64 (R.length : Nat), .bool false, .bool false, vset uu, .slice s l.length cs, vset uu, .bool false, .bool false, .bool false, vset a, vset b, vset (a &&& b), vset a, vset b, vset (a &&& b), .bool false, .bool false, .bool false, vset a, vset b, vset (a &&& ~~~b), vset a, vset b, vset (a &&& ~~~b), .bool false, .bool false, .bool false, vset a, vset (~~~a), vset a, vset (~~~a), .bool false, .bool false, .bool false, vset a, vset b, .bool (a &&& b == a), vset a, vset b, vset (a &&& ~~~b), vset 0#256, .bool (a &&& b == a), .bool false, .bool false, .bool false, vset a, .int .i64 (L.length : Nat), .slice ay L.length cy, .int .i64 (L.length : Nat), .bool false, .bool false, .bool false, .int .u8 (cc : Nat), .int .u8 (cc : Nat), .bool false, .bool false, .bool false, .bool ok, .bool ok, .bool false, .bool false]
              #[vset a, vset b, .slice s l.length cs, .pointer (some ⟨nA, 0, none⟩), .pointer (some ⟨nB, 0, none⟩), undef, u6, .slice (some ⟨g, 0, none⟩) l.length c, .pointer (some ⟨nU, 0, none⟩), .int .i64 (l.length : Nat), .slice ay L.length cy, .int .u8 (cc : Nat), .bool ok, .int .u8 (cc : Nat), .bool ok, .slice ar R.length cr, .slice ar2 R.length cr2, undef, undef, u19, u20, u21, u22, u23, u24, u25, u26, u27, u28, u29, u30, u31, u32, u33, u34, u35, u36, u37, u38, u39, u40, u41, u42, u43, u44, u45, u46, u47, u48, u49, u50, u51, u52, u53, u54, u55, u56, u57, u58, u59, u60, u61, u62, vset a, .slice ar R.length cr, vset a, .slice ar2 R.length cr2, .slice ar R.length cr, .int .i64 (R.length : Nat), .slice ar2 R.length cr2, .int .i64 (R.length : Nat), .bool false, .bool false, vset uu, .slice s l.length cs, vset uu, .bool false, .bool false, .bool false, vset a, vset b, vset (a &&& b), vset a, vset b, vset (a &&& b), .bool false, .bool false, .bool false, vset a, vset b, vset (a &&& ~~~b), vset a, vset b, vset (a &&& ~~~b), .bool false, .bool false, .bool false, vset a, vset (~~~a), vset a, vset (~~~a), .bool false, .bool false, .bool false, vset a, vset b, .bool (a &&& b == a), vset a, vset b, vset (a &&& ~~~b), vset 0#256, .bool (a &&& b == a), .bool false, .bool false, .bool false, vset a, .int .i64 (L.length : Nat), .slice ay L.length cy, .int .i64 (L.length : Nat), .bool false, .bool false, .bool false, .int .u8 (cc : Nat), .int .u8 (cc : Nat), .bool false, .bool false, .bool false, .bool ok, .bool ok, .bool false, .bool false, u131, u132, u133, u134, u135, u136, u137, u138, u139, u140, u141, u142, u143, u144, u145, u146, u147, u148, u149, u150, u151, u152, u153, u154, u155, u156, u157, u158, u159, u160, u161]
              rfl (by kernel_rfl) (by kernel_rfl) (by kernel_rfl) hN (Below.refl _ w4).drew (fun W W' h hB => h.trans (hB.mono h.size)) ?_ ?_
            rotate_left
            · intro w' hS
              have HS := Lib.hid hS
              have HR1w := Lib.hid (HR1.out.below hS (Nat.le_refl _))
              have HR2w := Lib.hid (HR2.out.below hS (Nat.le_refl _))
              have HYw := Lib.hid (HY2.out.below hS (Nat.le_refl _))
              have HAw := Lib.hid (HA2.out.below hS HA2.out.lt)
              have HBw := Lib.hid (HB2.out.trans (hS.mono HB2.out.size))
              clear hS AA AB AU AF AN hN HR1 HR2 HY2 HA2 HAb2 HU2 HB2 HS
              unfold vset
              go_wp2
              go_loopw [17] (fun i wr => ∃ (k : Nat), i = .int .i64 k ∧ k ≤ R.length ∧ Hid (Below w'.heap.size w' wr))
                (fun i _ => R.length - (intOf i).toNat)
              case atStart => exact ⟨0, rfl, Nat.zero_le _, Below.refl _ _⟩
              case round =>
                obtain ⟨k, rfl, hk, hW⟩ := hrel
                by_cases hlt : k < R.length
                · have HX : Hid (R[k]? = some R[k]) := Lib.hid (List.getElem?_eq_getElem hlt)
                  obtain ⟨x, hx⟩ : ∃ x, R[k] = x := ⟨_, rfl⟩
                  rw [hx] at HX
                  clear hx
                  obtain ⟨f, t⟩ := x
                  obtain ⟨b1, off1, rfl, e1, e2⟩ := (HR1w.out.below hW.out (Nat.le_refl _)) k _ HX.out
                  obtain ⟨b2, off2, rfl, e3, e4⟩ := (HR2w.out.below hW.out (Nat.le_refl _)) k _ HX.out
                  go_wp2
                  go_region
                  go_wp2
                  go_roundw
                  case rel => exact ⟨k + 1, by go_num, by omega, hW.out.drew⟩
                  case measure => simp [intOf]; omega
                · obtain rfl : k = R.length := by omega
                  have HAr := Lib.hid (HAw.out.below hW.out HAw.out.lt)
                  have HYr := Lib.hid (HYw.out.below hW.out (Nat.le_refl _))
                  have HBr := Lib.hid (HBw.out.trans (hW.out.mono HBw.out.size))
                  clear HAw HYw HBw hW HR1w HR2w
                  have c0 : wr.cell? ⟨nA, 0, none⟩ = some (.int .u64 (wdI a 0)) := HAr.out.cell 0
                  have c1 : wr.cell? ⟨nA, 1, none⟩ = some (.int .u64 (wdI a 1)) := HAr.out.cell 1
                  have c2 : wr.cell? ⟨nA, 2, none⟩ = some (.int .u64 (wdI a 2)) := HAr.out.cell 2
                  have c3 : wr.cell? ⟨nA, 3, none⟩ = some (.int .u64 (wdI a 3)) := HAr.out.cell 3
                  have KB0 := bytes_at a
                  unfold vset at KB0
                  have KB := fun W => Lib.hid (KB0 W)
                  clear KB0
                  go_wp2_with fail
                  refine (KB _).out.mono ?_
                  rintro e w5 ⟨rfl, hb5, hB5⟩
                  have HY5 := Lib.hid (HYr.out.below hB5 (Nat.le_refl _))
                  have HB5 := Lib.hid (HBr.out.trans (hB5.mono HBr.out.size))
                  have HF5 := Lib.hid hb5
                  obtain ⟨nF, hnF⟩ : ∃ nF, nF = wr.heap.size := ⟨_, rfl⟩
                  rw [← hnF] at HF5 ⊢
                  clear HAr HYr HBr hb5 hB5 hnF c0 c1 c2 c3 KB
                  go_wp2_with fail
                  refine (KG nF ay cy _ w5 (HG.out.below (Nat.le_refl _) HB5.out) HF5.out HY5.out).out.mono ?_
                  rintro e w6 ⟨rfl, hB6⟩
                  have HY6 := Lib.hid (HY5.out.below hB6 (Nat.le_refl _))
                  have HB6 := Lib.hid (HB5.out.trans (hB6.mono HB5.out.size))
                  have HF6 := Lib.hid (HF5.out.below hB6 HF5.out.lt)
                  clear HY5 HB5 HF5 hB6
                  go_wp2_with fail
                  refine (KG nF ay cy _ w6 (HG.out.below (Nat.le_refl _) HB6.out) HF6.out HY6.out).out.mono ?_
                  rintro e w7 ⟨rfl, hB7⟩
                  have HB7 := Lib.hid (HB6.out.trans (hB7.mono HB6.out.size))
                  clear HY6 HB6 HF6 hB7
                  go_wp2_with fail
                  refine (works_any w7 (HG.out.below (Nat.le_refl _) HB7.out)).mono ?_
                  rintro e w8 ⟨rfl, hB8⟩
                  have HB8 := Lib.hid (HB7.out.trans (hB8.mono HB7.out.size))
                  clear HB7 hB8
                  go_wp2
                  go_ret
                  exact ⟨rfl, HB8.out⟩
            refine Each.val 67 (.slice ar R.length cr) (by kernel_rfl) (by kernel_rfl) (by kernel_rfl) hN (fun _ _ _ => by kernel_rfl) ?_
            refine Each.val 68 (.int .i64 (R.length : Nat)) (by kernel_rfl) (by kernel_rfl) (by kernel_rfl) hN (fun W hS _ => ex_len22 (a := ar) (n := R.length) (c := cr) rfl (by kernel_rfl)) ?_
            refine Each.val 69 (.slice ar2 R.length cr2) (by kernel_rfl) (by kernel_rfl) (by kernel_rfl) hN (fun _ _ _ => by kernel_rfl) ?_
            refine Each.val 70 (.int .i64 (R.length : Nat)) (by kernel_rfl) (by kernel_rfl) (by kernel_rfl) hN (fun W hS _ => ex_len22 (a := ar2) (n := R.length) (c := cr2) rfl (by kernel_rfl)) ?_
            refine Each.val 71 (.bool false) (by kernel_rfl) (by kernel_rfl) (by kernel_rfl) hN (fun W hS _ => ex_neI (n := ((R.length : Nat) : Int)) rfl (by kernel_rfl) (by kernel_rfl)) ?_
            refine Each.val 72 (.bool false) (by kernel_rfl) (by kernel_rfl) (by kernel_rfl) hN (fun _ _ _ => by kernel_rfl) ?_
            refine Each.val 73 (vset uu) (by kernel_rfl) (by kernel_rfl) (by kernel_rfl) hN (fun W hS _ => ex_load rfl (by kernel_rfl) (AU W hS)) ?_
            refine Each.val 74 (.slice s l.length cs) (by kernel_rfl) (by kernel_rfl) (by kernel_rfl) hN (fun _ _ _ => by kernel_rfl) ?_
            refine Each.call 75 (vset uu) 25 #[.slice s l.length cs] (by kernel_rfl) (by kernel_rfl) (by kernel_rfl) (fun _ _ => by kernel_rfl) (fun W hS => AF W hS) ?_
            refine Each.val 76 (.bool false) (by kernel_rfl) (by kernel_rfl) (by kernel_rfl) hN (fun W hS _ => ex_neT (s := uu) rfl (by kernel_rfl) (by kernel_rfl)) ?_
            refine Each.val 77 (.bool false) (by kernel_rfl) (by kernel_rfl) (by kernel_rfl) hN (fun _ _ _ => by kernel_rfl) ?_
            refine Each.val 78 (.bool false) (by kernel_rfl) (by kernel_rfl) (by kernel_rfl) hN (fun _ _ _ => by kernel_rfl) ?_
            refine Each.val 79 (vset a) (by kernel_rfl) (by kernel_rfl) (by kernel_rfl) hN (fun W hS _ => ex_load rfl (by kernel_rfl) (AA W hS)) ?_
            refine Each.val 80 (vset b) (by kernel_rfl) (by kernel_rfl) (by kernel_rfl) hN (fun W hS _ => ex_load rfl (by kernel_rfl) (AB W hS)) ?_
            refine Each.call 81 (vset (a &&& b)) 26 #[vset a, vset b] (by kernel_rfl) (by kernel_rfl) (by kernel_rfl) (fun _ _ => by kernel_rfl) (fun W hS => meet_any a b W) ?_
            refine Each.val 82 (vset a) (by kernel_rfl) (by kernel_rfl) (by kernel_rfl) hN (fun W hS _ => ex_load rfl (by kernel_rfl) (AA W hS)) ?_
            refine Each.val 83 (vset b) (by kernel_rfl) (by kernel_rfl) (by kernel_rfl) hN (fun W hS _ => ex_load rfl (by kernel_rfl) (AB W hS)) ?_
            refine Each.call 84 (vset (a &&& b)) 27 #[vset a, vset b, .int .i64 0] (by kernel_rfl) (by kernel_rfl) (by kernel_rfl) (fun _ _ => by kernel_rfl) (fun W hS => rboth_meet a b W) ?_
            refine Each.val 85 (.bool false) (by kernel_rfl) (by kernel_rfl) (by kernel_rfl) hN (fun W hS _ => ex_neT (s := a &&& b) rfl (by kernel_rfl) (by kernel_rfl)) ?_
            refine Each.val 86 (.bool false) (by kernel_rfl) (by kernel_rfl) (by kernel_rfl) hN (fun _ _ _ => by kernel_rfl) ?_
            refine Each.val 87 (.bool false) (by kernel_rfl) (by kernel_rfl) (by kernel_rfl) hN (fun _ _ _ => by kernel_rfl) ?_
            refine Each.val 88 (vset a) (by kernel_rfl) (by kernel_rfl) (by kernel_rfl) hN (fun W hS _ => ex_load rfl (by kernel_rfl) (AA W hS)) ?_
            refine Each.val 89 (vset b) (by kernel_rfl) (by kernel_rfl) (by kernel_rfl) hN (fun W hS _ => ex_load rfl (by kernel_rfl) (AB W hS)) ?_
            refine Each.call 90 (vset (a &&& ~~~b)) 28 #[vset a, vset b] (by kernel_rfl) (by kernel_rfl) (by kernel_rfl) (fun _ _ => by kernel_rfl) (fun W hS => without_any a b W) ?_
            refine Each.val 91 (vset a) (by kernel_rfl) (by kernel_rfl) (by kernel_rfl) hN (fun W hS _ => ex_load rfl (by kernel_rfl) (AA W hS)) ?_
            refine Each.val 92 (vset b) (by kernel_rfl) (by kernel_rfl) (by kernel_rfl) hN (fun W hS _ => ex_load rfl (by kernel_rfl) (AB W hS)) ?_
            refine Each.call 93 (vset (a &&& ~~~b)) 27 #[vset a, vset b, .int .i64 2] (by kernel_rfl) (by kernel_rfl) (by kernel_rfl) (fun _ _ => by kernel_rfl) (fun W hS => rboth_without a b W) ?_
            refine Each.val 94 (.bool false) (by kernel_rfl) (by kernel_rfl) (by kernel_rfl) hN (fun W hS _ => ex_neT (s := a &&& ~~~b) rfl (by kernel_rfl) (by kernel_rfl)) ?_
            refine Each.val 95 (.bool false) (by kernel_rfl) (by kernel_rfl) (by kernel_rfl) hN (fun _ _ _ => by kernel_rfl) ?_
            refine Each.val 96 (.bool false) (by kernel_rfl) (by kernel_rfl) (by kernel_rfl) hN (fun _ _ _ => by kernel_rfl) ?_
            refine Each.val 97 (vset a) (by kernel_rfl) (by kernel_rfl) (by kernel_rfl) hN (fun W hS _ => ex_load rfl (by kernel_rfl) (AA W hS)) ?_
            refine Each.call 98 (vset (~~~a)) 29 #[vset a] (by kernel_rfl) (by kernel_rfl) (by kernel_rfl) (fun _ _ => by kernel_rfl) (fun W hS => not_any a W) ?_
            refine Each.val 99 (vset a) (by kernel_rfl) (by kernel_rfl) (by kernel_rfl) hN (fun W hS _ => ex_load rfl (by kernel_rfl) (AA W hS)) ?_
            refine Each.call 100 (vset (~~~a)) 19 #[vset a] (by kernel_rfl) (by kernel_rfl) (by kernel_rfl) (fun _ _ => by kernel_rfl) (fun W hS => rnot_any a W) ?_
            refine Each.val 101 (.bool false) (by kernel_rfl) (by kernel_rfl) (by kernel_rfl) hN (fun W hS _ => ex_neT (s := ~~~a) rfl (by kernel_rfl) (by kernel_rfl)) ?_
            refine Each.val 102 (.bool false) (by kernel_rfl) (by kernel_rfl) (by kernel_rfl) hN (fun _ _ _ => by kernel_rfl) ?_
            refine Each.val 103 (.bool false) (by kernel_rfl) (by kernel_rfl) (by kernel_rfl) hN (fun _ _ _ => by kernel_rfl) ?_
            refine Each.val 104 (vset a) (by kernel_rfl) (by kernel_rfl) (by kernel_rfl) hN (fun W hS _ => ex_load rfl (by kernel_rfl) (AA W hS)) ?_
            refine Each.val 105 (vset b) (by kernel_rfl) (by kernel_rfl) (by kernel_rfl) hN (fun W hS _ => ex_load rfl (by kernel_rfl) (AB W hS)) ?_
            refine Each.call 106 (.bool (a &&& b == a)) 30 #[vset a, vset b] (by kernel_rfl) (by kernel_rfl) (by kernel_rfl) (fun _ _ => by kernel_rfl) (fun W hS => within_any a b W) ?_
            refine Each.val 107 (vset a) (by kernel_rfl) (by kernel_rfl) (by kernel_rfl) hN (fun W hS _ => ex_load rfl (by kernel_rfl) (AA W hS)) ?_
            refine Each.val 108 (vset b) (by kernel_rfl) (by kernel_rfl) (by kernel_rfl) hN (fun W hS _ => ex_load rfl (by kernel_rfl) (AB W hS)) ?_
            refine Each.call 109 (vset (a &&& ~~~b)) 27 #[vset a, vset b, .int .i64 2] (by kernel_rfl) (by kernel_rfl) (by kernel_rfl) (fun _ _ => by kernel_rfl) (fun W hS => rboth_without a b W) ?_
            refine Each.val 110 (vset 0#256) (by kernel_rfl) (by kernel_rfl) (by kernel_rfl) hN (fun W hS _ => ex_zero29 rfl) ?_
            refine Each.val 111 (.bool (a &&& b == a)) (by kernel_rfl) (by kernel_rfl) (by kernel_rfl) hN (fun W hS _ => ex_eqT (s := a &&& ~~~b) (t := 0#256) rfl (by kernel_rfl) (by kernel_rfl) (within_eq a b)) ?_
            refine Each.val 112 (.bool false) (by kernel_rfl) (by kernel_rfl) (by kernel_rfl) hN (fun W hS _ => ex_neB (s := (a &&& b == a)) rfl (by kernel_rfl) (by kernel_rfl)) ?_
            refine Each.val 113 (.bool false) (by kernel_rfl) (by kernel_rfl) (by kernel_rfl) hN (fun _ _ _ => by kernel_rfl) ?_
            refine Each.val 114 (.bool false) (by kernel_rfl) (by kernel_rfl) (by kernel_rfl) hN (fun _ _ _ => by kernel_rfl) ?_
            refine Each.val 115 (vset a) (by kernel_rfl) (by kernel_rfl) (by kernel_rfl) hN (fun W hS _ => ex_load rfl (by kernel_rfl) (AA W hS)) ?_
            refine Each.call 116 (.int .i64 (L.length : Nat)) 31 #[vset a] (by kernel_rfl) (by kernel_rfl) (by kernel_rfl) (fun _ _ => by kernel_rfl) (fun W hS => AN W) ?_
            refine Each.val 117 (.slice ay L.length cy) (by kernel_rfl) (by kernel_rfl) (by kernel_rfl) hN (fun _ _ _ => by kernel_rfl) ?_
            refine Each.val 118 (.int .i64 (L.length : Nat)) (by kernel_rfl) (by kernel_rfl) (by kernel_rfl) hN (fun W hS _ => ex_len23 (a := ay) (n := L.length) (c := cy) rfl (by kernel_rfl)) ?_
            refine Each.val 119 (.bool false) (by kernel_rfl) (by kernel_rfl) (by kernel_rfl) hN (fun W hS _ => ex_neI (n := ((L.length : Nat) : Int)) rfl (by kernel_rfl) (by kernel_rfl)) ?_
            refine Each.val 120 (.bool false) (by kernel_rfl) (by kernel_rfl) (by kernel_rfl) hN (fun _ _ _ => by kernel_rfl) ?_
            refine Each.val 121 (.bool false) (by kernel_rfl) (by kernel_rfl) (by kernel_rfl) hN (fun _ _ _ => by kernel_rfl) ?_
            refine Each.val 122 (.int .u8 (cc : Nat)) (by kernel_rfl) (by kernel_rfl) (by kernel_rfl) hN (fun _ _ _ => by kernel_rfl) ?_
            refine Each.val 123 (.int .u8 (cc : Nat)) (by kernel_rfl) (by kernel_rfl) (by kernel_rfl) hN (fun _ _ _ => by kernel_rfl) ?_
            refine Each.val 124 (.bool false) (by kernel_rfl) (by kernel_rfl) (by kernel_rfl) hN (fun W hS _ => ex_neU (n := ((cc : Nat) : Int)) rfl (by kernel_rfl) (by kernel_rfl)) ?_
            refine Each.val 125 (.bool false) (by kernel_rfl) (by kernel_rfl) (by kernel_rfl) hN (fun _ _ _ => by kernel_rfl) ?_
            refine Each.val 126 (.bool false) (by kernel_rfl) (by kernel_rfl) (by kernel_rfl) hN (fun _ _ _ => by kernel_rfl) ?_
            refine Each.val 127 (.bool ok) (by kernel_rfl) (by kernel_rfl) (by kernel_rfl) hN (fun _ _ _ => by kernel_rfl) ?_
            refine Each.val 128 (.bool ok) (by kernel_rfl) (by kernel_rfl) (by kernel_rfl) hN (fun _ _ _ => by kernel_rfl) ?_
            refine Each.val 129 (.bool false) (by kernel_rfl) (by kernel_rfl) (by kernel_rfl) hN (fun W hS _ => ex_neB (s := ok) rfl (by kernel_rfl) (by kernel_rfl)) ?_
            refine Each.val 130 (.bool false) (by kernel_rfl) (by kernel_rfl) (by kernel_rfl) hN (fun _ _ _ => by kernel_rfl) ?_
            exact trivial

/-- The law, whole. -/
theorem lawJoins (a b : BS) (s : Option Addr) (cs : Nat) (l : List BS) (w : World) (hG : Glob w) (hd : RowB w s l) (hcs : s = none → cs = 0) (hls : l.length ≤ cs) :
    Calls Tryd.prog 4 #[vset a, vset b, .slice s l.length cs] w fun e w' => e = .returned (.bool true) ∧ Below w.heap.size w w' := by
  by_cases h : 30 < l.length
  · exact lawJoins_long a b s cs l w hG h
  · exact lawJoins_any a b s cs l w hG hd hcs hls (by omega)
end Go.Proofs.YtegmoeeeomjkgaaDoor
