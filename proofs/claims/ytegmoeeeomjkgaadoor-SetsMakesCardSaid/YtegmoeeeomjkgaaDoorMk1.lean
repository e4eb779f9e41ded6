import Derived.Test.YtegmoeeeomjkgaaDoorMk2
namespace Go.Proofs.YtegmoeeeomjkgaaDoor
open Go Go.RowKit Go.Vals

theorem cell_lt0 {w : World} {a : Addr} {v : Value} (h : w.cell? a = some v) : a.block < w.heap.size := by
  unfold World.cell? at h
  by_cases hb : a.block < w.heap.size
  · exact hb
  · simp [Array.getElem?_eq_none (Nat.le_of_not_lt hb)] at h

set_option maxRecDepth 100000 in
set_option maxHeartbeats 4000000 in
theorem lawMakes_long (a b : Option Addr) (ca cb : Nat) (rs : List (Nat × Nat)) (l : List Nat) (at' : Nat) (w : World) (hG : Glob w) (h : 300 < rs.length ∨ 1000 < l.length) :
    Calls Tryd.prog 3 #[.slice a rs.length ca, .slice b l.length cb, .int .u8 at'] w fun e w' => e = .returned (.bool true) ∧ Below w.heap.size w w' := by
  have HW := Lib.hid (works_any w hG)
  clear hG
  by_cases h1 : 300 < rs.length
  · have h1' : (300 : Int) < rs.length := by omega
    clear h
    go_enter Tryd.func3, Tryd.ntmps3
    go_wp2_with fail
    refine HW.out.mono ?_
    rintro e w1 ⟨rfl, hB⟩
    have HB := Lib.hid hB
    clear hB HW
    go_wp2
    go_ret
    exact ⟨rfl, HB.out⟩
  · have h1' : ¬ (300 : Int) < rs.length := by omega
    have h2' : (1000 : Int) < l.length := by omega
    clear h
    go_enter Tryd.func3, Tryd.ntmps3
    go_wp2_with fail
    refine HW.out.mono ?_
    rintro e w1 ⟨rfl, hB⟩
    have HB := Lib.hid hB
    clear hB HW
    go_wp2
    go_ret
    exact ⟨rfl, HB.out⟩

set_option maxRecDepth 100000 in
set_option maxHeartbeats 8000000 in
theorem lawMakes_any (a b : Option Addr) (ca cb : Nat) (rs : List (Nat × Nat)) (l : List Nat) (at' : Nat) (w : World) (hG : Glob w) (hd : RowR w a rs) (hs : SmallR rs) (hdl : RowY w b l) (hsl : SmallY l) (hat : at' < 256)
    (hca : a = none → ca = 0) (hcb : b = none → cb = 0) (hla : rs.length ≤ ca) (hlb : l.length ≤ cb) (h1 : rs.length ≤ 300) (h2 : l.length ≤ 1000) :
    Calls Tryd.prog 3 #[.slice a rs.length ca, .slice b l.length cb, .int .u8 at'] w fun e w' => e = .returned (.bool true) ∧ Below w.heap.size w w' := by
  obtain ⟨iR, hiR, hzR0, hzR1, hzR2⟩ := info_parts Tryd.info26
  obtain ⟨iY, hiY, hzY0, hzY1, hzY2⟩ := info_parts Tryd.info5
  have HG := Lib.hid hG
  have HD := Lib.hid hd
  have HS := Lib.hid hs
  have HY := Lib.hid hdl
  have HSY := Lib.hid hsl
  clear hG hd hs hdl hsl
  have h1' : ¬ (300 : Int) < rs.length := by omega
  have h2' : ¬ (1000 : Int) < l.length := by omega
  go_enter Tryd.func3, Tryd.ntmps3
  simp only [List.append_eq, List.cons_append, List.nil_append]
  go_upto_region 3 with fail
  go_cut [7] (fun s7 wx => ∃ g c, s7 = .slice (some ⟨g, 0, none⟩) rs.length c ∧ Hid (Sent w.heap.size 26 2 (cellsR rs) [.int .u8 7, .int .u8 3] rs.length g c wx) ∧ Hid (Below w.heap.size w wx))
  case first =>
    as_aux_lemma =>
    have hE0 := World.ownsRow_lit (base := w.heap.size) (e := 26) (size := 2) w #[] 0 (Nat.le_refl _) (by decide) rfl
    cases a with
    | none =>
      obtain rfl := row_none_R HD.out
      obtain rfl : ca = 0 := hca rfl
      go_wp2_with (first
        | (at_builtin; refine wpList_append_own_none rfl (.tmp 24) (.tmp 25) 22 rfl w.heap.size 26 iR 2 Tryd.underlying22 hiR _ _ _ rfl hE0 rfl ?_)
        | (at_builtin; refine wpList_append_own _ rfl (.tmp 26) (.tmp 28) 22 rfl w.heap.size 26 iR _ 2 2 Tryd.underlying22 hiR hzR0 hzR1 hzR2 rfl (by decide) _ _ _ rfl (hE0.alloc _) ⟨w.heap.size + 1, 0, none⟩ 1 1 [.int .u8 7, .int .u8 3] rfl rfl (by simpa using cell_two_new (w.alloc (.cells #[] 26)) (.int .u8 7) (.int .u8 3) 26) (by simp [Value.oneCell']) (by unfold maxLen; omega) (by omega) (by simp; omega) ?_; intro v2 w3 hown2 hgrow2 _))
      have hB3 : Hid (Below w.heap.size w w3) := ((((Below.refl _ w).alloc (Nat.le_refl _) _).alloc (by simp) _).grown hgrow2 (by simp; omega) (fun k e => ((hE0.alloc (.cells #[.int .u8 7, .int .u8 3] 26)).lt k e).1))
      obtain ⟨g, c, rfl, hM⟩ := Sent.of (xs := cellsR []) (last := [.int .u8 7, .int .u8 3]) hown2
      have hc2 : (0 : Int) ≤ (c : Int) := by omega
      have HM := Lib.hid hM
      clear hown2 hgrow2 hM hE0
      go_simp
      go_wp2_with fail
      go_meet
      exact ⟨g, c, rfl, HM, hB3⟩
    | some ad =>
      go_wp2_with (first
        | (at_builtin; refine wpList_append_own _ rfl (.tmp 24) (.tmp 25) 22 rfl w.heap.size 26 iR _ 2 2 Tryd.underlying22 hiR hzR0 hzR1 hzR2 rfl (by decide) _ _ _ rfl hE0 ad rs.length ca (cellsR rs) rfl (cellsR_length rs) (fun j u hu => (World.cell?_alloc_lt w _ _ (by have := news_R HD.out j u hu; exact cell_lt0 this)).trans (news_R HD.out j u hu)) (one_R rs) (by unfold maxLen; omega) (by omega) (by simp) ?_; intro v1 w2 hown1 hgrow1 _)
        | (at_builtin; refine wpList_append_own _ rfl (.tmp 26) (.tmp 28) 22 rfl w.heap.size 26 iR _ 2 2 Tryd.underlying22 hiR hzR0 hzR1 hzR2 rfl (by decide) _ _ _ rfl (World.ownsRow.alloc hown1 _) ⟨w2.heap.size, 0, none⟩ 1 1 [.int .u8 7, .int .u8 3] rfl rfl (cell_two_new w2 (.int .u8 7) (.int .u8 3) 26) (by simp [Value.oneCell']) (by unfold maxLen; omega) (by omega) (le_alloc (Nat.le_trans (by simp) hgrow1.size) _) ?_; intro v2 w3 hown2 hgrow2 _))
      have hB2 : Below w.heap.size w w2 := ((Below.refl _ w).alloc (Nat.le_refl _) _).grown hgrow1 (by simp) (fun k e => (hE0.lt k e).1)
      have hB3 : Hid (Below w.heap.size w w3) := (hB2.alloc hB2.size _).grown hgrow2 (le_alloc hB2.size _) (fun k e => (hown1.lt k e).1)
      obtain ⟨g, c, rfl, hM⟩ := Sent.of (n := rs.length) (xs := cellsR rs) (last := [.int .u8 7, .int .u8 3]) (by simpa using hown2)
      have hc1 := hM.2
      have hc2 : (rs.length : Int) ≤ (c : Int) := by omega
      have hc3 : (0 : Int) ≤ (rs.length : Int) := by omega
      have hc4 : rs.length ≤ c := by omega
      have HM := Lib.hid hM
      clear hown2 hgrow2 hown1 hgrow1 hM hE0 hB2
      go_simp
      go_wp2_with fail
      go_meet
      exact ⟨g, c, rfl, HM, hB3⟩
  case rest =>
    obtain ⟨wb, rfl⟩ : ∃ wb : World, wb = wc := ⟨_, rfl⟩
    obtain ⟨g, c, rfl, hM, hB⟩ := hcut
    go_upto_region 4 with fail
    go_cut [8] (fun s8 wx => ∃ g2 c2, s8 = .slice (some ⟨g2, 0, none⟩) l.length c2 ∧ Hid (Sent wb.heap.size 5 1 (cellsY l) [.int .u8 165] l.length g2 c2 wx) ∧ Hid (Below wb.heap.size wb wx))
    case first =>
      as_aux_lemma =>
      have hE0 := World.ownsRow_lit (base := wb.heap.size) (e := 5) (size := 1) wb #[] 0 (Nat.le_refl _) (by decide) rfl
      have HY2 := Lib.hid (HY.out.below hB.out (Nat.le_refl _))
      cases b with
      | none =>
        obtain rfl := row_none_Y HY.out
        obtain rfl : cb = 0 := hcb rfl
        go_wp2_with (first
          | (at_builtin; refine wpList_append_own_none rfl (.tmp 33) (.tmp 34) 23 rfl wb.heap.size 5 iY 1 Tryd.underlying23 hiY _ _ _ rfl hE0 rfl ?_)
          | (at_builtin; refine wpList_append_own _ rfl (.tmp 35) (.tmp 36) 23 rfl wb.heap.size 5 iY _ 1 1 Tryd.underlying23 hiY hzY0 hzY1 hzY2 rfl (by decide) _ _ _ rfl (hE0.alloc _) ⟨wb.heap.size + 1, 0, none⟩ 1 1 [.int .u8 165] rfl rfl (by simpa using cell_one_new (wb.alloc (.cells #[] 5)) (.int .u8 165) 5) (by simp [Value.oneCell']) (by unfold maxLen; omega) (by omega) (by simp; omega) ?_; intro v2 w3 hown2 hgrow2 _))
        have hB3 : Hid (Below wb.heap.size wb w3) := ((((Below.refl _ wb).alloc (Nat.le_refl _) _).alloc (by simp) _).grown hgrow2 (by simp; omega) (fun k e => ((hE0.alloc (.cells #[.int .u8 165] 5)).lt k e).1))
        obtain ⟨g2, c2, rfl, hM2⟩ := Sent.of (xs := cellsY []) (last := [.int .u8 165]) hown2
        have hc2 : (0 : Int) ≤ (c2 : Int) := by omega
        have HM := Lib.hid hM2
        clear hown2 hgrow2 hM2 hE0
        go_simp
        go_wp2_with fail
        go_meet
        exact ⟨g2, c2, rfl, HM, hB3⟩
      | some ad =>
        go_wp2_with (first
          | (at_builtin; refine wpList_append_own _ rfl (.tmp 33) (.tmp 34) 23 rfl wb.heap.size 5 iY _ 1 1 Tryd.underlying23 hiY hzY0 hzY1 hzY2 rfl (by decide) _ _ _ rfl hE0 ad l.length cb (cellsY l) rfl (by unfold cellsY; simp) (fun j u hu => (World.cell?_alloc_lt wb _ _ (by have := news_Y HY2.out j u hu; exact cell_lt0 this)).trans (news_Y HY2.out j u hu)) (one_Y l) (by unfold maxLen; omega) (by omega) (by simp) ?_; intro v1 w2 hown1 hgrow1 _)
          | (at_builtin; refine wpList_append_own _ rfl (.tmp 35) (.tmp 36) 23 rfl wb.heap.size 5 iY _ 1 1 Tryd.underlying23 hiY hzY0 hzY1 hzY2 rfl (by decide) _ _ _ rfl (World.ownsRow.alloc hown1 _) ⟨w2.heap.size, 0, none⟩ 1 1 [.int .u8 165] rfl rfl (cell_one_new w2 (.int .u8 165) 5) (by simp [Value.oneCell']) (by unfold maxLen; omega) (by omega) (le_alloc (Nat.le_trans (by simp) hgrow1.size) _) ?_; intro v2 w3 hown2 hgrow2 _))
        have hB2 : Below wb.heap.size wb w2 := ((Below.refl _ wb).alloc (Nat.le_refl _) _).grown hgrow1 (by simp) (fun k e => (hE0.lt k e).1)
        have hB3 : Hid (Below wb.heap.size wb w3) := (hB2.alloc hB2.size _).grown hgrow2 (le_alloc hB2.size _) (fun k e => (hown1.lt k e).1)
        obtain ⟨g2, c2, rfl, hM2⟩ := Sent.of (n := l.length) (xs := cellsY l) (last := [.int .u8 165]) (by simpa using hown2)
        have hc1 := hM2.2
        have hc2 : (l.length : Int) ≤ (c2 : Int) := by omega
        have hc3 : (0 : Int) ≤ (l.length : Int) := by omega
        have hc4 : l.length ≤ c2 := by omega
        have HM := Lib.hid hM2
        clear hown2 hgrow2 hown1 hgrow1 hM2 hE0 hB2
        go_simp
        go_wp2_with fail
        go_meet
        exact ⟨g2, c2, rfl, HM, hB3⟩
    case rest =>
      obtain ⟨g2, c2, rfl, hM2, hB2⟩ := hcut
      have HM := Lib.hid (hM.out.below hB2.out (Nat.le_refl _))
      have HB := Lib.hid (hB.out.trans (hB2.out.mono hB.out.size))
      have HM2 := hM2
      clear hM hM2 hB hB2
      obtain ⟨su, ev, hV⟩ : ∃ su ev, makeV rs = .tuple #[vset su, .int .i64 ev] := by
        unfold makeV
        cases makeR 0#256 rs with
        | none => exact ⟨_, _, rfl⟩
        | some s => exact ⟨_, _, rfl⟩
      have K1 := fun (W : World) (h : RowR W (some ⟨g, 0, none⟩) rs) => Lib.hid (make_any (some ⟨g, 0, none⟩) c rs W h HS.out (by omega))
      have K2 := fun (W : World) (h : RowR W a rs) => Lib.hid (rmake_any a ca rs W h HS.out (by omega))
      have K3 := fun (W : World) (h : RowY W (some ⟨g2, 0, none⟩) l) => Lib.hid (of_any (some ⟨g2, 0, none⟩) c2 l W h HSY.out (by omega))
      rw [hV] at K1 K2
      obtain ⟨ou, hou⟩ : ∃ ou, ou = ofL l := ⟨_, rfl⟩
      rw [← hou] at K3
      have HOU := Lib.hid hou
      clear hV hou
      go_wp2_with fail
      refine (K1 _ (HM.out.rowR rfl)).out.mono ?_
      rintro e w1 ⟨rfl, hB1⟩
      have hM := Lib.hid (HM.out.below hB1 (Nat.le_refl _))
      have hM2 := Lib.hid (HM2.out.below hB1 (Nat.le_refl _))
      have hB := Lib.hid (HB.out.trans (hB1.mono HB.out.size))
      clear HM HM2 HB hB1 K1
      unfold vset
      go_wp2_with fail
      have bS1 := Lib.hid (Blk.new w1 29 (cset su))
      have aB1 : Hid (Below w.heap.size w (w1.alloc (.cells (cset su) 29))) := hB.out.alloc hB.out.size _
      have aW1 : Hid (Below w1.heap.size w1 (w1.alloc (.cells (cset su) 29))) := (Below.refl _ w1).alloc (Nat.le_refl _) _
      refine (K2 _ (HD.out.below aB1.out (Nat.le_refl _))).out.mono ?_
      rintro e w2 ⟨rfl, hB2⟩
      have HM := Lib.hid ((hM.out.below aW1.out (Nat.le_refl _)).below hB2 (Nat.le_refl _))
      have HM2 := Lib.hid ((hM2.out.below aW1.out (Nat.le_refl _)).below hB2 (Nat.le_refl _))
      have HB := Lib.hid (aB1.out.trans (hB2.mono aB1.out.size))
      have bS2 := Lib.hid (bS1.out.below hB2 bS1.out.lt)
      clear hM hM2 hB bS1 aB1 aW1 hB2 K2
      unfold vset
      go_wp2_with fail
      have bT1 := Lib.hid (Blk.new w2 29 (cset su))
      have bS3 : Hid (Blk (w2.alloc (.cells (cset su) 29)) w1.heap.size 29 (cset su)) := bS2.out.alloc _
      have aB1 : Hid (Below w.heap.size w (w2.alloc (.cells (cset su) 29))) := HB.out.alloc HB.out.size _
      have aW1 : Hid (Below w2.heap.size w2 (w2.alloc (.cells (cset su) 29))) := (Below.refl _ w2).alloc (Nat.le_refl _) _
      have aM2 := Lib.hid (HM2.out.below aW1.out (Nat.le_refl _))
      refine (K3 _ (aM2.out.rowY rfl)).out.mono ?_
      rintro e w3 ⟨rfl, hB3⟩
      have hM := Lib.hid ((HM.out.below aW1.out (Nat.le_refl _)).below hB3 (Nat.le_refl _))
      have hM2 := Lib.hid (aM2.out.below hB3 (Nat.le_refl _))
      have hB := Lib.hid (aB1.out.trans (hB3.mono aB1.out.size))
      have bS := Lib.hid (bS3.out.below hB3 bS3.out.lt)
      have bT := Lib.hid (bT1.out.below hB3 bT1.out.lt)
      clear HM HM2 HB bS2 bT1 bS3 aB1 aW1 aM2 hB3 K3
      unfold vset
      go_wp2_with fail
      have aW : Hid (Below w3.heap.size w3 (w3.alloc (.cells (cset ou) 29))) := (Below.refl _ w3).alloc (Nat.le_refl _) _
      have HM := Lib.hid (hM.out.below aW.out (Nat.le_refl _))
      have HM2 := Lib.hid (hM2.out.below aW.out (Nat.le_refl _))
      have HB : Hid (Below w.heap.size w (w3.alloc (.cells (cset ou) 29))) := hB.out.alloc hB.out.size _
      have HS1 := Lib.hid (bS.out.alloc (.cells (cset ou) 29))
      have HT1 := Lib.hid (bT.out.alloc (.cells (cset ou) 29))
      have HO1 := Lib.hid (Blk.new w3 29 (cset ou))
      clear hM hM2 hB bS bT aW
      obtain ⟨nS, hnS⟩ : ∃ nS, nS = w1.heap.size := ⟨_, rfl⟩
      obtain ⟨nT, hnT⟩ : ∃ nT, nT = w2.heap.size := ⟨_, rfl⟩
      obtain ⟨nO, hnO⟩ : ∃ nO, nO = w3.heap.size := ⟨_, rfl⟩
      obtain ⟨wL, hwL⟩ : ∃ wL : World, wL = w3.alloc (.cells (cset ou) 29) := ⟨_, rfl⟩
      have hwL2 : w3.alloc (.cells #[.int .u64 (wdI ou 0), .int .u64 (wdI ou 1), .int .u64 (wdI ou 2), .int .u64 (wdI ou 3)] 29) = wL := hwL.symm
      rw [← hwL] at HM HM2 HB HS1 HT1 HO1
      rw [hwL2]
      rw [← hnS] at HS1 ⊢
      rw [← hnT] at HT1 ⊢
      rw [← hnO] at HO1 ⊢
      clear hwL hwL2 hnS hnT hnO
      go_loopw [14] (fun i wr => ∃ (k : Nat), i = .int .i64 k ∧ k ≤ rs.length ∧ Hid (Below wL.heap.size wL wr))
        (fun i _ => rs.length - (intOf i).toNat)
      case atStart => exact ⟨0, rfl, Nat.zero_le _, Below.refl _ _⟩
      case round =>
        obtain ⟨k, rfl, hk, hW⟩ := hrel
        by_cases hlt : k < rs.length
        · have HX : Hid (rs[k]? = some rs[k]) := Lib.hid (List.getElem?_eq_getElem hlt)
          obtain ⟨x1, x2⟩ := HS.out rs[k] (List.getElem_mem hlt)
          obtain ⟨x, hx⟩ : ∃ x, rs[k] = x := ⟨_, rfl⟩
          rw [hx] at HX x1 x2
          clear hx
          obtain ⟨f, t⟩ := x
          dsimp only at x1 x2
          obtain ⟨b', off, rfl, e1, e2⟩ := HD.out k _ HX.out
          have r1 : wr.cell? ⟨b', off + k * 2, none⟩ = some (.int .u8 f) := ((HB.out.trans (hW.out.mono HB.out.size)).cell (p := ⟨b', _, none⟩) (lt_of_cell e1)).trans e1
          have r2 : wr.cell? ⟨b', off + k * 2 + 1, none⟩ = some (.int .u8 t) := ((HB.out.trans (hW.out.mono HB.out.size)).cell (p := ⟨b', _, none⟩) (lt_of_cell e2)).trans e2
          clear e1 e2
          obtain ⟨b2, off2, hb2, e1, e2⟩ := (HM.out.below hW.out (Nat.le_refl _)).rowR rfl k _ HX.out
          obtain ⟨rfl, rfl⟩ : g = b2 ∧ 0 = off2 := by cases hb2; exact ⟨rfl, rfl⟩
          rw [Nat.zero_add] at e1 e2
          clear hb2
          have hkc : k < c := by have := HM.out.2; omega
          go_wp2
          go_region
          go_wp2
          go_roundw
          case rel => exact ⟨k + 1, by go_num, by omega, hW.out.drew⟩
          case measure => simp [intOf]; omega
        · obtain rfl : k = rs.length := by omega
          go_wp2
          have hN : ∀ w : World, Below w.heap.size w w := fun w => Below.refl _ w
          have HBr := Lib.hid (HB.out.trans (hW.out.mono HB.out.size))
          have hMr := HM.out.below hW.out (Nat.le_refl _)
          have hM2r := HM2.out.below hW.out (Nat.le_refl _)
          have hcM : rs.length + 1 ≤ c := HM.out.2
          have hcM2 : l.length + 1 ≤ c2 := HM2.out.2
          have A3 : ∀ W, Below wr.heap.size wr W → W.cell? ⟨g, rs.length * 2 + 1, none⟩ = some (.int .u8 3) := fun W h => by
            rw [(hMr.below h (Nat.le_refl _)).cells _ (by omega), List.getElem?_append_right (by rw [cellsR_length]; omega), cellsR_length]; simp
          have A165 : ∀ W, Below wr.heap.size wr W → W.cell? ⟨g2, l.length, none⟩ = some (.int .u8 165) := fun W h => by
            rw [(hM2r.below h (Nat.le_refl _)).cells _ (by omega), List.getElem?_append_right (by unfold cellsY; simp)]; unfold cellsY; simp
          have AC1 : ∀ W, Below wr.heap.size wr W → (convert 23 9 (.slice (some ⟨g2, 0, none⟩) l.length c2)).run Tryd.prog W = .ok (.string (bytesStr l)) W := fun W h => conv_row _ c2 W l ((hM2r.below h (Nat.le_refl _)).rowY rfl) (fun e => by cases e)
          have AC2 : ∀ W, Below wr.heap.size wr W → (convert 23 9 (.slice b l.length cb)).run Tryd.prog W = .ok (.string (bytesStr l)) W := fun W h => conv_row b cb W l (HY.out.below (HBr.out.trans (h.mono HBr.out.size)) (Nat.le_refl _)) hcb
          have AS : ∀ W, Below wr.heap.size wr W → Blk W nS 29 (cset su) := fun W h => (HS1.out.below hW.out HS1.out.lt).below h (HS1.out.below hW.out HS1.out.lt).lt
          have AT : ∀ W, Below wr.heap.size wr W → Blk W nT 29 (cset su) := fun W h => (HT1.out.below hW.out HT1.out.lt).below h (HT1.out.below hW.out HT1.out.lt).lt
          have AO : ∀ W, Below wr.heap.size wr W → Blk W nO 29 (cset ou) := fun W h => (HO1.out.below hW.out HO1.out.lt).below h (HO1.out.below hW.out HO1.out.lt).lt
          have AF : ∀ W, Below wr.heap.size wr W → Calls Tryd.prog 15 #[.slice b l.length cb] W fun e W' => e = .returned (vset ou) ∧ Below W.heap.size W W' := fun W h => by
            rw [HOU.out]
            exact rof_any b cb l W (HY.out.below (HBr.out.trans (h.mono HBr.out.size)) (Nat.le_refl _)) HSY.out (by omega)
          have AG : ∀ W, Below wr.heap.size wr W → Glob W := fun W h => HG.out.below (Nat.le_refl _) (HBr.out.trans (h.mono HBr.out.size))
          clear hMr hM2r HM HM2 HB HS1 HT1 HO1 hW HD HS HY HSY HG HOU hlt hk
          refine wp_region_vals0 (N := fun W W' => Below W.heap.size W W') (S := fun W => Below wr.heap.size wr W)
            [.slice (some ⟨g, 0, none⟩) rs.length c, .slice a rs.length ca, .int .i64 (rs.length : Nat), .int .i64 ((rs.length + 1 : Nat) : Int), .slice (some ⟨g, 0, none⟩) (rs.length + 1) c, .slice a rs.length ca, .int .i64 (rs.length : Nat), .pointer (some ⟨g, rs.length * 2, none⟩), .pointer (some ⟨g, rs.length * 2 + 1, none⟩), .int .u8 3, .bool true, .bool true, .slice (some ⟨g2, 0, none⟩) l.length c2, .string (bytesStr l), .slice b l.length cb, .string (bytesStr l), .bool true, .bool true, .bool true, .slice (some ⟨g2, 0, none⟩) l.length c2, .slice b l.length cb, .int .i64 (l.length : Nat), .int .i64 ((l.length + 1 : Nat) : Int), .slice (some ⟨g2, 0, none⟩) (l.length + 1) c2, .slice b l.length cb, .int .i64 (l.length : Nat), .pointer (some ⟨g2, l.length, none⟩), .int .u8 165, .bool true, .bool true, .bool true, vset su, vset su, .bool true, .bool true, .bool true, .int .i64 ev, .int .i64 ev, .int .i64 ev, .bool true, .bool true, .bool true, vset ou, .slice b l.length cb, vset ou, .bool true, .bool true, .bool true, vset su, .int .u8 (at' : Nat), .bool (su.getLsbD at'), vset su, .int .u8 (at' : Nat), .int .i64 (at' : Nat), .bool (su.getLsbD at'), .bool true, .bool true, .bool true, vset full, .agg #[.int .u64 0, .int .u64 0, .int .u64 0, .int .u64 0], vset full, .bool true, .bool true, .bool true, .bool true, .bool true, .bool true]
            #[.slice a rs.length ca, .slice b l.length cb, .int .u8 (at' : Nat), undef, undef, undef, .bool true, .slice (some ⟨g, 0, none⟩) rs.length c, .slice (some ⟨g2, 0, none⟩) l.length c2, .pointer (some ⟨nS, 0, none⟩), .int .i64 ev, .pointer (some ⟨nT, 0, none⟩), .int .i64 ev, .pointer (some ⟨nO, 0, none⟩), .int .i64 (rs.length : Nat), u15, u16, u17, u18, u19, u20, u21, u22, u23, u24, u25, u26, u27, u28, u29, u30, u31, u32, u33, u34, u35, u36, u37, u38, u39, u40, .tuple #[vset su, .int .i64 ev], .slice (some ⟨g, 0, none⟩) rs.length c, .tuple #[vset su, .int .i64 ev], vset su, .int .i64 ev, .tuple #[vset su, .int .i64 ev], .slice a rs.length ca, .tuple #[vset su, .int .i64 ev], vset su, .int .i64 ev, .slice (some ⟨g2, 0, none⟩) l.length c2, vset ou, .int .i64 (rs.length : Nat), .slice a rs.length ca, .int .i64 (rs.length : Nat), .bool false, u57, u58, u59, u60, u61, u62, u63, u64, u65, u66, u67, .slice (some ⟨g, 0, none⟩) rs.length c, .slice a rs.length ca, .int .i64 (rs.length : Nat), .int .i64 ((rs.length + 1 : Nat) : Int), .slice (some ⟨g, 0, none⟩) (rs.length + 1) c, .slice a rs.length ca, .int .i64 (rs.length : Nat), .pointer (some ⟨g, rs.length * 2, none⟩), .pointer (some ⟨g, rs.length * 2 + 1, none⟩), .int .u8 3, .bool true, .bool true, .slice (some ⟨g2, 0, none⟩) l.length c2, .string (bytesStr l), .slice b l.length cb, .string (bytesStr l), .bool true, .bool true, .bool true, .slice (some ⟨g2, 0, none⟩) l.length c2, .slice b l.length cb, .int .i64 (l.length : Nat), .int .i64 ((l.length + 1 : Nat) : Int), .slice (some ⟨g2, 0, none⟩) (l.length + 1) c2, .slice b l.length cb, .int .i64 (l.length : Nat), .pointer (some ⟨g2, l.length, none⟩), .int .u8 165, .bool true, .bool true, .bool true, vset su, vset su, .bool true, .bool true, .bool true, .int .i64 ev, .int .i64 ev, .int .i64 ev, .bool true, .bool true, .bool true, vset ou, .slice b l.length cb, vset ou, .bool true, .bool true, .bool true, vset su, .int .u8 (at' : Nat), .bool (su.getLsbD at'), vset su, .int .u8 (at' : Nat), .int .i64 (at' : Nat), .bool (su.getLsbD at'), .bool true, .bool true, .bool true, vset full, .agg #[.int .u64 0, .int .u64 0, .int .u64 0, .int .u64 0], vset full, .bool true, .bool true, .bool true, .bool true, .bool true]
            rfl (by kernel_rfl) (by kernel_rfl) (by kernel_rfl) hN (Below.refl _ wr).drew (fun W W' h hB => h.trans (hB.mono h.size)) ?_ ?_
          rotate_left
          · intro w' hS
            have hfin := Lib.hid (HBr.out.trans (hS.mono HBr.out.size))
            clear hS A3 A165 AC1 AC2 AS AT AO AF AG hN hcM hcM2
            go_wp2
            go_ret
            exact ⟨rfl, hfin.out⟩
          refine Each.val 68 (.slice (some ⟨g, 0, none⟩) rs.length c) (by kernel_rfl) (by kernel_rfl) (by kernel_rfl) hN (fun _ _ _ => by kernel_rfl) ?_
          refine Each.val 69 (.slice a rs.length ca) (by kernel_rfl) (by kernel_rfl) (by kernel_rfl) hN (fun _ _ _ => by kernel_rfl) ?_
          refine Each.val 70 (.int .i64 (rs.length : Nat)) (by kernel_rfl) (by kernel_rfl) (by kernel_rfl) hN (fun W hS _ => ex_len22 (a := a) (n := rs.length) (c := ca) rfl (by kernel_rfl)) ?_
          refine Each.val 71 (.int .i64 ((rs.length + 1 : Nat) : Int)) (by kernel_rfl) (by kernel_rfl) (by kernel_rfl) hN (fun W hS _ => ex_add1 (n := rs.length) rfl (by kernel_rfl) (by kernel_rfl) (by omega)) ?_
          refine Each.val 72 (.slice (some ⟨g, 0, none⟩) (rs.length + 1) c) (by kernel_rfl) (by kernel_rfl) (by kernel_rfl) hN (fun W hS _ => ex_cut22 (g := g) (n := rs.length) (m := rs.length + 1) (c := c) rfl (by kernel_rfl) (by kernel_rfl) hcM) ?_
          refine Each.val 73 (.slice a rs.length ca) (by kernel_rfl) (by kernel_rfl) (by kernel_rfl) hN (fun _ _ _ => by kernel_rfl) ?_
          refine Each.val 74 (.int .i64 (rs.length : Nat)) (by kernel_rfl) (by kernel_rfl) (by kernel_rfl) hN (fun W hS _ => ex_len22 (a := a) (n := rs.length) (c := ca) rfl (by kernel_rfl)) ?_
          refine Each.val 75 (.pointer (some ⟨g, rs.length * 2, none⟩)) (by kernel_rfl) (by kernel_rfl) (by kernel_rfl) hN (fun W hS _ => ex_ix22 (g := g) (n := rs.length + 1) (m := rs.length) (c := c) rfl (by kernel_rfl) (by kernel_rfl) (Nat.lt_succ_self _)) ?_
          refine Each.val 76 (.pointer (some ⟨g, rs.length * 2 + 1, none⟩)) (by kernel_rfl) (by kernel_rfl) (by kernel_rfl) hN (fun W hS _ => ex_fld26 (g := g) (m := rs.length * 2) rfl (by kernel_rfl)) ?_
          refine Each.val 77 (.int .u8 3) (by kernel_rfl) (by kernel_rfl) (by kernel_rfl) hN (fun W hS _ => ex_ld5 rfl (by kernel_rfl) (A3 W hS)) ?_
          refine Each.val 78 (.bool true) (by kernel_rfl) (by kernel_rfl) (by kernel_rfl) hN (fun _ _ _ => by kernel_rfl) ?_
          refine Each.val 79 (.bool true) (by kernel_rfl) (by kernel_rfl) (by kernel_rfl) hN (fun _ _ _ => by kernel_rfl) ?_
          refine Each.val 80 (.slice (some ⟨g2, 0, none⟩) l.length c2) (by kernel_rfl) (by kernel_rfl) (by kernel_rfl) hN (fun _ _ _ => by kernel_rfl) ?_
          refine Each.val 81 (.string (bytesStr l)) (by kernel_rfl) (by kernel_rfl) (by kernel_rfl) hN (fun W hS _ => ex_conv rfl (by kernel_rfl) (AC1 W hS)) ?_
          refine Each.val 82 (.slice b l.length cb) (by kernel_rfl) (by kernel_rfl) (by kernel_rfl) hN (fun _ _ _ => by kernel_rfl) ?_
          refine Each.val 83 (.string (bytesStr l)) (by kernel_rfl) (by kernel_rfl) (by kernel_rfl) hN (fun W hS _ => ex_conv rfl (by kernel_rfl) (AC2 W hS)) ?_
          refine Each.val 84 (.bool true) (by kernel_rfl) (by kernel_rfl) (by kernel_rfl) hN (fun W hS _ => ex_eqS (s := bytesStr l) rfl (by kernel_rfl) (by kernel_rfl)) ?_
          refine Each.val 85 (.bool true) (by kernel_rfl) (by kernel_rfl) (by kernel_rfl) hN (fun _ _ _ => by kernel_rfl) ?_
          refine Each.val 86 (.bool true) (by kernel_rfl) (by kernel_rfl) (by kernel_rfl) hN (fun _ _ _ => by kernel_rfl) ?_
          refine Each.val 87 (.slice (some ⟨g2, 0, none⟩) l.length c2) (by kernel_rfl) (by kernel_rfl) (by kernel_rfl) hN (fun _ _ _ => by kernel_rfl) ?_
          refine Each.val 88 (.slice b l.length cb) (by kernel_rfl) (by kernel_rfl) (by kernel_rfl) hN (fun _ _ _ => by kernel_rfl) ?_
          refine Each.val 89 (.int .i64 (l.length : Nat)) (by kernel_rfl) (by kernel_rfl) (by kernel_rfl) hN (fun W hS _ => ex_len23 (a := b) (n := l.length) (c := cb) rfl (by kernel_rfl)) ?_
          refine Each.val 90 (.int .i64 ((l.length + 1 : Nat) : Int)) (by kernel_rfl) (by kernel_rfl) (by kernel_rfl) hN (fun W hS _ => ex_add1 (n := l.length) rfl (by kernel_rfl) (by kernel_rfl) (by omega)) ?_
          refine Each.val 91 (.slice (some ⟨g2, 0, none⟩) (l.length + 1) c2) (by kernel_rfl) (by kernel_rfl) (by kernel_rfl) hN (fun W hS _ => ex_cut23 (g := g2) (n := l.length) (m := l.length + 1) (c := c2) rfl (by kernel_rfl) (by kernel_rfl) hcM2) ?_
          refine Each.val 92 (.slice b l.length cb) (by kernel_rfl) (by kernel_rfl) (by kernel_rfl) hN (fun _ _ _ => by kernel_rfl) ?_
          refine Each.val 93 (.int .i64 (l.length : Nat)) (by kernel_rfl) (by kernel_rfl) (by kernel_rfl) hN (fun W hS _ => ex_len23 (a := b) (n := l.length) (c := cb) rfl (by kernel_rfl)) ?_
          refine Each.val 94 (.pointer (some ⟨g2, l.length, none⟩)) (by kernel_rfl) (by kernel_rfl) (by kernel_rfl) hN (fun W hS _ => ex_ix23 (g := g2) (n := l.length + 1) (m := l.length) (c := c2) rfl (by kernel_rfl) (by kernel_rfl) (Nat.lt_succ_self _)) ?_
          refine Each.val 95 (.int .u8 165) (by kernel_rfl) (by kernel_rfl) (by kernel_rfl) hN (fun W hS _ => ex_ld5 rfl (by kernel_rfl) (A165 W hS)) ?_
          refine Each.val 96 (.bool true) (by kernel_rfl) (by kernel_rfl) (by kernel_rfl) hN (fun _ _ _ => by kernel_rfl) ?_
          refine Each.val 97 (.bool true) (by kernel_rfl) (by kernel_rfl) (by kernel_rfl) hN (fun _ _ _ => by kernel_rfl) ?_
          refine Each.val 98 (.bool true) (by kernel_rfl) (by kernel_rfl) (by kernel_rfl) hN (fun _ _ _ => by kernel_rfl) ?_
          refine Each.val 99 (vset su) (by kernel_rfl) (by kernel_rfl) (by kernel_rfl) hN (fun W hS _ => ex_load rfl (by kernel_rfl) (AS W hS)) ?_
          refine Each.val 100 (vset su) (by kernel_rfl) (by kernel_rfl) (by kernel_rfl) hN (fun W hS _ => ex_load rfl (by kernel_rfl) (AT W hS)) ?_
          refine Each.val 101 (.bool true) (by kernel_rfl) (by kernel_rfl) (by kernel_rfl) hN (fun W hS _ => ex_eqT (s := su) (t := su) rfl (by kernel_rfl) (by kernel_rfl) (by simp)) ?_
          refine Each.val 102 (.bool true) (by kernel_rfl) (by kernel_rfl) (by kernel_rfl) hN (fun _ _ _ => by kernel_rfl) ?_
          refine Each.val 103 (.bool true) (by kernel_rfl) (by kernel_rfl) (by kernel_rfl) hN (fun _ _ _ => by kernel_rfl) ?_
          refine Each.val 104 (.int .i64 ev) (by kernel_rfl) (by kernel_rfl) (by kernel_rfl) hN (fun _ _ _ => by kernel_rfl) ?_
          refine Each.call 105 (.int .i64 ev) 14 #[.int .i64 ev] (by kernel_rfl) (by kernel_rfl) (by kernel_rfl) (fun _ _ => by kernel_rfl) (fun W hS => (num_any ev W).mono fun _ _ ⟨a, b⟩ => ⟨a, b ▸ Below.refl _ _⟩) ?_
          refine Each.val 106 (.int .i64 ev) (by kernel_rfl) (by kernel_rfl) (by kernel_rfl) hN (fun _ _ _ => by kernel_rfl) ?_
          refine Each.val 107 (.bool true) (by kernel_rfl) (by kernel_rfl) (by kernel_rfl) hN (fun W hS _ => ex_eqI (n := ev) rfl (by kernel_rfl) (by kernel_rfl)) ?_
          refine Each.val 108 (.bool true) (by kernel_rfl) (by kernel_rfl) (by kernel_rfl) hN (fun _ _ _ => by kernel_rfl) ?_
          refine Each.val 109 (.bool true) (by kernel_rfl) (by kernel_rfl) (by kernel_rfl) hN (fun _ _ _ => by kernel_rfl) ?_
          refine Each.val 110 (vset ou) (by kernel_rfl) (by kernel_rfl) (by kernel_rfl) hN (fun W hS _ => ex_load rfl (by kernel_rfl) (AO W hS)) ?_
          refine Each.val 111 (.slice b l.length cb) (by kernel_rfl) (by kernel_rfl) (by kernel_rfl) hN (fun _ _ _ => by kernel_rfl) ?_
          refine Each.call 112 (vset ou) 15 #[.slice b l.length cb] (by kernel_rfl) (by kernel_rfl) (by kernel_rfl) (fun _ _ => by kernel_rfl) (fun W hS => AF W hS) ?_
          refine Each.val 113 (.bool true) (by kernel_rfl) (by kernel_rfl) (by kernel_rfl) hN (fun W hS _ => ex_eqT (s := ou) (t := ou) rfl (by kernel_rfl) (by kernel_rfl) (by simp)) ?_
          refine Each.val 114 (.bool true) (by kernel_rfl) (by kernel_rfl) (by kernel_rfl) hN (fun _ _ _ => by kernel_rfl) ?_
          refine Each.val 115 (.bool true) (by kernel_rfl) (by kernel_rfl) (by kernel_rfl) hN (fun _ _ _ => by kernel_rfl) ?_
          refine Each.val 116 (vset su) (by kernel_rfl) (by kernel_rfl) (by kernel_rfl) hN (fun W hS _ => ex_load rfl (by kernel_rfl) (AS W hS)) ?_
          refine Each.val 117 (.int .u8 (at' : Nat)) (by kernel_rfl) (by kernel_rfl) (by kernel_rfl) hN (fun _ _ _ => by kernel_rfl) ?_
          refine Each.call 118 (.bool (su.getLsbD at')) 16 #[vset su, .int .u8 (at' : Nat)] (by kernel_rfl) (by kernel_rfl) (by kernel_rfl) (fun _ _ => by kernel_rfl) (fun W hS => has_any su at' hat W) ?_
          refine Each.val 119 (vset su) (by kernel_rfl) (by kernel_rfl) (by kernel_rfl) hN (fun W hS _ => ex_load rfl (by kernel_rfl) (AS W hS)) ?_
          refine Each.val 120 (.int .u8 (at' : Nat)) (by kernel_rfl) (by kernel_rfl) (by kernel_rfl) hN (fun _ _ _ => by kernel_rfl) ?_
          refine Each.val 121 (.int .i64 (at' : Nat)) (by kernel_rfl) (by kernel_rfl) (by kernel_rfl) hN (fun W hS _ => ex_widen (n := at') rfl (by kernel_rfl) hat) ?_
          refine Each.call 122 (.bool (su.getLsbD at')) 17 #[vset su, .int .i64 (at' : Nat)] (by kernel_rfl) (by kernel_rfl) (by kernel_rfl) (fun _ _ => by kernel_rfl) (fun W hS => rhas_any su at' hat W) ?_
          refine Each.val 123 (.bool true) (by kernel_rfl) (by kernel_rfl) (by kernel_rfl) hN (fun W hS _ => ex_eqBT (s := su.getLsbD at') (t := su.getLsbD at') rfl (by kernel_rfl) (by kernel_rfl) (by simp)) ?_
          refine Each.val 124 (.bool true) (by kernel_rfl) (by kernel_rfl) (by kernel_rfl) hN (fun _ _ _ => by kernel_rfl) ?_
          refine Each.val 125 (.bool true) (by kernel_rfl) (by kernel_rfl) (by kernel_rfl) hN (fun _ _ _ => by kernel_rfl) ?_
          refine Each.call 126 (vset full) 18 #[] (by kernel_rfl) (by kernel_rfl) (by kernel_rfl) (fun _ _ => by kernel_rfl) (fun W hS => all_any W) ?_
          refine Each.val 127 (.agg #[.int .u64 0, .int .u64 0, .int .u64 0, .int .u64 0]) (by kernel_rfl) (by kernel_rfl) (by kernel_rfl) hN (fun _ _ _ => by kernel_rfl) ?_
          refine Each.call 128 (vset full) 19 #[.agg #[.int .u64 0, .int .u64 0, .int .u64 0, .int .u64 0]] (by kernel_rfl) (by kernel_rfl) (by kernel_rfl) (fun _ _ => by kernel_rfl) (fun W hS => rnot_zero W) ?_
          refine Each.val 129 (.bool true) (by kernel_rfl) (by kernel_rfl) (by kernel_rfl) hN (fun W hS _ => ex_eqT (s := full) (t := full) rfl (by kernel_rfl) (by kernel_rfl) (by simp)) ?_
          refine Each.val 130 (.bool true) (by kernel_rfl) (by kernel_rfl) (by kernel_rfl) hN (fun _ _ _ => by kernel_rfl) ?_
          refine Each.val 131 (.bool true) (by kernel_rfl) (by kernel_rfl) (by kernel_rfl) hN (fun _ _ _ => by kernel_rfl) ?_
          refine Each.call 132 (.bool true) 10 #[] (by kernel_rfl) (by kernel_rfl) (by kernel_rfl) (fun _ _ => by kernel_rfl) (fun W hS => works_any W (AG W hS)) ?_
          refine Each.val 133 (.bool true) (by kernel_rfl) (by kernel_rfl) (by kernel_rfl) hN (fun _ _ _ => by kernel_rfl) ?_
          refine Each.val 6 (.bool true) (by kernel_rfl) (by kernel_rfl) (by kernel_rfl) hN (fun _ _ _ => by kernel_rfl) ?_
          exact trivial

/-- The law, whole. -/
theorem lawMakes (a b : Option Addr) (ca cb : Nat) (rs : List (Nat × Nat)) (l : List Nat) (at' : Nat) (w : World) (hG : Glob w) (hd : RowR w a rs) (hs : SmallR rs) (hdl : RowY w b l) (hsl : SmallY l) (hat : at' < 256)
    (hca : a = none → ca = 0) (hcb : b = none → cb = 0) (hla : rs.length ≤ ca) (hlb : l.length ≤ cb) :
    Calls Tryd.prog 3 #[.slice a rs.length ca, .slice b l.length cb, .int .u8 at'] w fun e w' => e = .returned (.bool true) ∧ Below w.heap.size w w' := by
  by_cases h : 300 < rs.length ∨ 1000 < l.length
  · exact lawMakes_long a b ca cb rs l at' w hG h
  · exact lawMakes_any a b ca cb rs l at' w hG hd hs hdl hsl hat hca hcb hla hlb (by omega) (by omega)
end Go.Proofs.YtegmoeeeomjkgaaDoor
