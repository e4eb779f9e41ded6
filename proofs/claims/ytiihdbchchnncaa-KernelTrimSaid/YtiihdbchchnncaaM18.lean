import Derived.Test.YtiihdbchchnncaaM17
section
namespace Go.Proofs.Ytiihdbchchnncaa
open Go Go.RowKit Go.Vals

set_option maxRecDepth 100000 in
set_option maxHeartbeats 40000000 in
theorem rtrim_any (g : GramM) (w : World) (hc : checkB g = true) (hf : FitG g) (hnil : NilOK g) (hg : GIn w g) :
    Calls Try.prog 26 #[gramV g] w fun e w' => RTrimP g e w' ∧ Below w.heap.size w w' := by
  have hm := mayB_of hc
  obtain ⟨W1, hW1⟩ : ∃ W1, W1 = (w.alloc (.cells (gramC g) 27)).alloc (.cells #[.slice none 0 0, .slice none 0 0, .int .i64 0, .slice none 0 0, .slice none 0 0] 27) := ⟨_, rfl⟩
  have hs1 : W1.heap.size = w.heap.size + 1 + 1 := by rw [hW1]; simp
  have hB1 : Below w.heap.size w W1 := by rw [hW1]; exact ((Below.refl _ _).alloc (Nat.le_refl _) _).alloc (by simp) _
  have hk : Blk W1 w.heap.size 27 (gramC g) := by rw [hW1]; exact (Blk.new w 27 (gramC g)).alloc _
  have hr : Blk W1 (w.heap.size + 1) 27 #[.slice none 0 0, .slice none 0 0, .int .i64 0, .slice none 0 0, .slice none 0 0] := by
    have h := Blk.new (w.alloc (.cells (gramC g) 27)) 27 #[.slice none 0 0, .slice none 0 0, .int .i64 0, .slice none 0 0, .slice none 0 0]
    rw [World.size_alloc] at h
    rw [hW1]; exact h
  have H11 := Lib.hid (no11_of hc)
  obtain ⟨stn, hst, hstn⟩ := hm.start
  have HM := Lib.hid hm
  have HG := Lib.hid hg
  have HF := Lib.hid hf
  have HNil := Lib.hid hnil
  have HB1 := Lib.hid hB1
  have HK1 := Lib.hid hk
  have HR1 := Lib.hid hr
  have HSt := Lib.hid hst
  have Hs1 := Lib.hid hs1
  have hmp := hm.prods
  have hms := hm.sorts2
  have hff := hf.fit.forbid
  have hfw := hf.fit.follow
  have HPr := Lib.hid (fun W (hW : Below w.heap.size w W) => rproductive_any g hm hf.fit W (hg.below hW))
  have HRe := Lib.hid (fun W (hW : Below w.heap.size w W) => rreached_any g hm hf.fit true W (hg.below hW))
  have HP1 : Hid (∀ L w', Live g L → lv L stn = false → RTrimP g (.returned (.tuple #[gramV zeroG, .bool false])) w') := Lib.hid (fun L w' h1 h2 => ⟨L, h1, .inl ⟨by rw [hst]; exact h2, rfl⟩⟩)
  have HP2 : Hid (∀ L R h w', Live g L → lv L stn = true → ReachL g L R → KeptM g R h → GIn w' h → NilOK h → RTrimP g (.returned (.tuple #[gramV h, .bool true])) w') := Lib.hid (fun L R h w' h1 h2 h3 h4 h5 h6 =>
    ⟨L, h1, .inr ⟨by rw [hst]; exact h2, R, h, h3, h4, h5, h6, rfl⟩⟩)
  have HKc : Hid (∀ W, Below W1.heap.size W1 W → CellsAt W w.heap.size 0 (gramC g)) := Lib.hid (fun W hW => by
    have b0 := HK1.out.below hW HK1.out.lt
    exact fun j v hv => by rw [Nat.zero_add, b0.cell j]; exact hv)
  obtain ⟨sa, hsa⟩ : ∃ p, p = g.sa := ⟨_, rfl⟩
  obtain ⟨pa, hpa⟩ : ∃ p, p = g.pa := ⟨_, rfl⟩
  obtain ⟨fa, hfa⟩ : ∃ p, p = g.fa := ⟨_, rfl⟩
  obtain ⟨wa, hwa⟩ : ∃ p, p = g.wa := ⟨_, rfl⟩
  have HSa := Lib.hid hsa
  have HPa := Lib.hid hpa
  have HFa := Lib.hid hfa
  have HWa := Lib.hid hwa
  have HGr : Hid (gramC g = #[.slice sa g.sorts.length g.sc, .slice pa g.prods.length g.pc, .int .i64 (stn : Int), .slice fa g.forbid.length g.fc, .slice wa g.follow.length g.wc]) := Lib.hid (by unfold gramC; rw [hst, hsa, hpa, hfa, hwa])
  have HPr1 := Lib.hid (HPr.out W1.drew HB1.out.drew)
  have hd1 : W1.drew.heap.size = W1.heap.size := rfl
  rw [hd1] at HPr1
  clear hd1
  have HW1 := Lib.hid hW1
  unfold gramV at HPr1
  rw [HGr.out] at hk HPr1 HW1 HK1
  obtain ⟨c0, c1, c2, c3, c4⟩ := cells5 hk
  have l1 := hk.lt
  have hn1 : (stn : Int) < (g.sorts.length : Int) := by omega
  clear hm hc hf hnil hg hB1 hk hr hW1 hs1 hsa hpa hfa hwa hst
  unfold gramV
  rw [HGr.out]
  go_enter Try.func26, Try.ntmps26
  go_wp2_with fail
  rw [← HW1.out]
  go_upto_region 1 with fail
  go_cut [25] (fun s25 wx => ∃ L, s25 = .bool (!lv L (stn : Int)) ∧ Hid (Live g L ∧ Below W1.heap.size W1 wx))
  case first =>
    go_wp2_with fail
    go_region_law (first
      | (go_simp; go_at_call 38; (with_reducible refine HPr1.out.mono ?_); rintro e w3 ⟨L, hLv, rfl, hq3, hB3⟩; have hB3 : Below W1.heap.size W1 w3 := ⟨hB3.os, hB3.tape, hB3.output, hB3.size, hB3.block⟩; have HB3 := Lib.hid hB3; have HLv := Lib.hid hLv; have hLl := hLv.1; have e1 := (hq3.cell stn).trans (bools_at L stn (by rw [hLl]; exact hstn)); have HK3 := Lib.hid (HK1.out.below hB3 HK1.out.lt); obtain ⟨c0, c1, c2, c3, c4⟩ := cells5 HK3.out; have l3 := HK3.out.lt; have hnL : (stn : Int) < (L.length : Int) := (by omega); clear hq3 hB3 hLv hLl))
    all_goals (go_wp2; go_meet)
    all_goals exact ⟨L, rfl, Lib.hid ⟨HLv.out, HB3.out⟩⟩
  obtain ⟨L, rfl, HC⟩ := hcut
  have HB3 := Lib.hid HC.out.2
  have HLv := Lib.hid HC.out.1
  have HK3 := Lib.hid (HK1.out.below HC.out.2 HK1.out.lt)
  have HR3 := Lib.hid (HR1.out.below HC.out.2 HR1.out.lt)
  obtain ⟨d0, d1, d2, d3, d4⟩ := cells5 HK3.out
  have l3 := HK3.out.lt
  clear HC c0 c1 c2 c3 c4 l1 HPr1 HW1
  cases h1 : lv L (stn : Int) with
  | false =>
    have HF' := Lib.hid (fun w' => HP1.out L w' HLv.out h1)
    clear h1
    obtain ⟨f0, f1, f2, f3, f4⟩ := frz5 HR3.out
    obtain ⟨b0, b1, b2, b3, b4⟩ := cells5 HR3.out
    have l5 := HR3.out.lt
    rw [Bool.not_false]
    go_wp2
    obtain ⟨WF, hWF⟩ : ∃ W, W = put5 wc (w.heap.size + 1) (.slice none 0 0) (.slice none 0 0) (.int .i64 0) (.slice none 0 0) (.slice none 0 0) := ⟨_, rfl⟩
    obtain ⟨q0, q1, q2, q3, q4⟩ := cells5 (HR3.out.put5 (.slice none 0 0) (.slice none 0 0) (.int .i64 0) (.slice none 0 0) (.slice none 0 0))
    have HBF := Lib.hid (below_put5 (HB1.out.trans (HB3.out.mono HB1.out.size)) (Nat.le_succ w.heap.size) (.slice none 0 0) (.slice none 0 0) (.int .i64 0) (.slice none 0 0) (.slice none 0 0))
    rw [← hWF] at q0 q1 q2 q3 q4 HBF
    unfold put5 at hWF
    rw [← hWF]
    refine bodyPost_ret (v := .tuple #[.agg #[.slice none 0 0, .slice none 0 0, .int .i64 0, .slice none 0 0, .slice none 0 0], .bool false]) (by simp [results, Try.results26, go_sem, q0, q1, q2, q3, q4]) rfl ⟨HF'.out _, HBF.out⟩
  | true =>
    have HF' := Lib.hid (fun R h w' => HP2.out L R h w' HLv.out h1)
    have HL1 := Lib.hid h1
    clear h1 d0 d1 d2 d3 d4
    rw [Bool.not_true]
    have HKc3 : Hid (∀ W, Below wc.heap.size wc W → CellsAt W w.heap.size 0 (gramC g)) := Lib.hid (fun W hW => HKc.out W (HB3.out.trans (hW.mono HB3.out.size)))
    have hle : w.heap.size + 1 < wc.heap.size := HR3.out.lt
    have H38 : Hid (∀ W, Below wc.heap.size wc W → Calls Try.prog 38 #[gramV g] W fun e w' => ∃ v, e = .returned v ∧ Below W.heap.size W w' ∧ pT g (w.heap.size + 1 + 1) g.sorts.length 28 v w') := Lib.hid fun W hW => by
      refine (HPr.out W (HB1.out.trans ((HB3.out.trans (hW.mono HB3.out.size)).mono HB1.out.size))).mono ?_
      rintro e w4 ⟨L, hL, rfl, hb, hB⟩
      refine ⟨_, rfl, hB, ?_⟩
      have := hW.size
      unfold pT
      rw [if_pos (by decide), hL.1]
      exact ⟨_, L, by omega, rfl, hb, hL⟩
    have H39 : Hid (∀ W, Below wc.heap.size wc W → Calls Try.prog 39 #[gramV g, .bool true] W fun e w' => ∃ v, e = .returned v ∧ Below W.heap.size W w' ∧ pT g (w.heap.size + 1 + 1) g.sorts.length 30 v w') := Lib.hid fun W hW => by
      refine (HRe.out W (HB1.out.trans ((HB3.out.trans (hW.mono HB3.out.size)).mono HB1.out.size))).mono ?_
      rintro e w4 ⟨L, R, hL, hR, rfl, hb, hB⟩
      refine ⟨_, rfl, hB, ?_⟩
      have := hW.size
      unfold pT
      rw [if_neg (by decide), hR.1]
      exact ⟨_, L, R, by omega, rfl, hb, hL, hR⟩
    clear HPr HRe
    go_upto_region 3 with fail
    have e0 : gramV g = .agg #[.slice sa g.sorts.length g.sc, .slice pa g.prods.length g.pc, .int .i64 (stn : Int), .slice fa g.forbid.length g.fc, .slice wa g.follow.length g.wc] := by unfold gramV; rw [HGr.out]
    rw [e0] at H38 H39
    clear e0
    have hN : ∀ W : World, Below W.heap.size W W := fun W => Below.refl _ W
    refine wp_region_vals (N := fun W W' => Below W.heap.size W W') (S := fun W => Below wc.heap.size wc W) [28, 30, 4, 5] (fun t v W => pT g (w.heap.size + 1 + 1) g.sorts.length t v W)
      [.agg #[.slice sa g.sorts.length g.sc, .slice pa g.prods.length g.pc, .int .i64 (stn : Int), .slice fa g.forbid.length g.fc, .slice wa g.follow.length g.wc], undef, .agg #[.slice sa g.sorts.length g.sc, .slice pa g.prods.length g.pc, .int .i64 (stn : Int), .slice fa g.forbid.length g.fc, .slice wa g.follow.length g.wc], undef, undef, undef]
      #[.agg #[.slice sa g.sorts.length g.sc, .slice pa g.prods.length g.pc, .int .i64 (stn : Int), .slice fa g.forbid.length g.fc, .slice wa g.follow.length g.wc], .pointer (some ⟨w.heap.size, 0, none⟩), .pointer (some ⟨w.heap.size + 1, 0, none⟩), .bool false, undef, undef, undef, undef, undef, undef, undef, undef, undef, undef, undef, undef, undef, undef, undef, u19, u20, u21, u22, u23, u24, .bool false, u26, .agg #[.slice sa g.sorts.length g.sc, .slice pa g.prods.length g.pc, .int .i64 (stn : Int), .slice fa g.forbid.length g.fc, .slice wa g.follow.length g.wc], undef, .agg #[.slice sa g.sorts.length g.sc, .slice pa g.prods.length g.pc, .int .i64 (stn : Int), .slice fa g.forbid.length g.fc, .slice wa g.follow.length g.wc], undef, u31, u32, u33, u34, u35, u36, u37, u38, u39, u40, u41, u42, u43, u44, u45, u46, u47, u48, u49, u50, u51, u52, u53, u54, u55, u56, u57, u58, u59, u60, u61, u62, u63, u64, u65, u66, u67, u68, u69, u70, u71, u72, u73, u74, u75, u76, u77, u78, u79, u80, u81, u82, u83, u84, u85, u86, u87, u88, u89, u90, u91, u92, u93, u94, u95, u96, u97, u98, u99, u100, u101, u102, u103, u104, u105, u106, u107, u108, u109, u110, u111, u112, u113, u114, u115, u116, u117, u118, u119, u120, u121, u122, u123, u124, u125, u126, u127, u128, u129, u130, u131, u132, u133, u134, u135, u136, u137, u138, u139, u140, u141, u142, u143, u144, u145, u146, u147, u148, u149, u150, u151, u152, u153, u154, u155, u156, u157, u158, u159, u160, u161, u162, u163, u164, u165, u166, u167, u168, u169, u170, u171, u172, u173, u174, u175, u176, u177, u178, u179, u180, u181, u182, u183, u184, u185, u186, u187, u188, u189, u190, u191, u192, u193, u194, u195, u196, u197, u198, u199, u200, u201, u202, u203, u204, u205, u206, u207, u208, u209, u210, u211, u212, u213, u214, u215, u216, u217, u218, u219, u220, u221, u222, u223, u224, u225, u226, u227, u228, u229, u230, u231, u232, u233, u234, u235, u236, u237, u238, u239, u240, u241, u242, u243, u244, u245, u246, u247, u248, u249, u250, u251, u252, u253, u254, u255, u256, u257, u258, u259, u260, u261, u262, u263, u264, u265, u266, u267, u268, u269, u270, u271]
      rfl (by kernel_rfl) (by kernel_rfl) (by kernel_rfl) (by kernel_rfl) hN (Below.refl _ wc).drew (fun W W' h hB => h.trans (hB.mono h.size)) (fun _ _ v W W' h hB => h.below hB) ?_ ?_
    · refine Each.val 27 (.agg #[.slice sa g.sorts.length g.sc, .slice pa g.prods.length g.pc, .int .i64 (stn : Int), .slice fa g.forbid.length g.fc, .slice wa g.follow.length g.wc]) (by kernel_rfl) (by kernel_rfl) (by kernel_rfl) hN (fun W hS _ => ld27' rfl (by kernel_rfl) (HKc3.out W hS) HGr.out) ?_
      refine Each.callMakes 28 38 #[.agg #[.slice sa g.sorts.length g.sc, .slice pa g.prods.length g.pc, .int .i64 (stn : Int), .slice fa g.forbid.length g.fc, .slice wa g.follow.length g.wc]] (by kernel_rfl) (by kernel_rfl) (by kernel_rfl) (by kernel_rfl) (by kernel_rfl) (fun _ _ => by kernel_rfl) (fun W hS => H38.out W hS) ?_
      refine Each.val 29 (.agg #[.slice sa g.sorts.length g.sc, .slice pa g.prods.length g.pc, .int .i64 (stn : Int), .slice fa g.forbid.length g.fc, .slice wa g.follow.length g.wc]) (by kernel_rfl) (by kernel_rfl) (by kernel_rfl) hN (fun W hS _ => ld27' rfl (by kernel_rfl) (HKc3.out W hS) HGr.out) ?_
      refine Each.callMakes 30 39 #[.agg #[.slice sa g.sorts.length g.sc, .slice pa g.prods.length g.pc, .int .i64 (stn : Int), .slice fa g.forbid.length g.fc, .slice wa g.follow.length g.wc], .bool true] (by kernel_rfl) (by kernel_rfl) (by kernel_rfl) (by kernel_rfl) (by kernel_rfl) (fun _ _ => by kernel_rfl) (fun W hS => H39.out W hS) ?_
      refine Each.copyLoose 4 28 (by kernel_rfl) (by kernel_rfl) (by kernel_rfl) (by kernel_rfl) (fun _ => by kernel_rfl) hN (fun _ _ => by kernel_rfl) (fun W x h => by unfold pT at h ⊢; rw [if_pos (by decide)] at h ⊢; exact h) ?_
      refine Each.copyLoose 5 30 (by kernel_rfl) (by kernel_rfl) (by kernel_rfl) (by kernel_rfl) (fun _ => by kernel_rfl) hN (fun _ _ => by kernel_rfl) (fun W x h => by unfold pT at h ⊢; rw [if_neg (by decide)] at h ⊢; exact h) ?_
      exact trivial
    · intro T w4 hT hS hk
      have hT1 := loose_eq hT hk
      obtain ⟨v4, hv4, hk4⟩ := hk 4 (show (4 : Nat) < 272 by omega)
      obtain ⟨v5, hv5, hk5⟩ := hk 5 (show (5 : Nat) < 272 by omega)
      have hg4 : T.getD 4 undef = v4 := by rw [Array.getD_eq_getD_getElem?, hv4]; rfl
      have hg5 : T.getD 5 undef = v5 := by rw [Array.getD_eq_getD_getElem?, hv5]; rfl
      have hp4 : pT g (w.heap.size + 1 + 1) g.sorts.length 4 v4 w4 := by
        rcases hk4 with ⟨_, h⟩ | ⟨h, _⟩
        · exact h
        · exact absurd (by decide) h
      have hp5 : pT g (w.heap.size + 1 + 1) g.sorts.length 5 v5 w4 := by
        rcases hk5 with ⟨_, h⟩ | ⟨h, _⟩
        · exact h
        · exact absurd (by decide) h
      obtain ⟨v1, v2, hTT⟩ : ∃ v1 v2 : Value, T = #[.agg #[.slice sa g.sorts.length g.sc, .slice pa g.prods.length g.pc, .int .i64 (stn : Int), .slice fa g.forbid.length g.fc, .slice wa g.follow.length g.wc], .pointer (some ⟨w.heap.size, 0, none⟩), .pointer (some ⟨w.heap.size + 1, 0, none⟩), .bool false, v4, v5, undef, undef, undef, undef, undef, undef, undef, undef, undef, undef, undef, undef, undef, u19, u20, u21, u22, u23, u24, .bool false, u26, .agg #[.slice sa g.sorts.length g.sc, .slice pa g.prods.length g.pc, .int .i64 (stn : Int), .slice fa g.forbid.length g.fc, .slice wa g.follow.length g.wc], v1, .agg #[.slice sa g.sorts.length g.sc, .slice pa g.prods.length g.pc, .int .i64 (stn : Int), .slice fa g.forbid.length g.fc, .slice wa g.follow.length g.wc], v2, u31, u32, u33, u34, u35, u36, u37, u38, u39, u40, u41, u42, u43, u44, u45, u46, u47, u48, u49, u50, u51, u52, u53, u54, u55, u56, u57, u58, u59, u60, u61, u62, u63, u64, u65, u66, u67, u68, u69, u70, u71, u72, u73, u74, u75, u76, u77, u78, u79, u80, u81, u82, u83, u84, u85, u86, u87, u88, u89, u90, u91, u92, u93, u94, u95, u96, u97, u98, u99, u100, u101, u102, u103, u104, u105, u106, u107, u108, u109, u110, u111, u112, u113, u114, u115, u116, u117, u118, u119, u120, u121, u122, u123, u124, u125, u126, u127, u128, u129, u130, u131, u132, u133, u134, u135, u136, u137, u138, u139, u140, u141, u142, u143, u144, u145, u146, u147, u148, u149, u150, u151, u152, u153, u154, u155, u156, u157, u158, u159, u160, u161, u162, u163, u164, u165, u166, u167, u168, u169, u170, u171, u172, u173, u174, u175, u176, u177, u178, u179, u180, u181, u182, u183, u184, u185, u186, u187, u188, u189, u190, u191, u192, u193, u194, u195, u196, u197, u198, u199, u200, u201, u202, u203, u204, u205, u206, u207, u208, u209, u210, u211, u212, u213, u214, u215, u216, u217, u218, u219, u220, u221, u222, u223, u224, u225, u226, u227, u228, u229, u230, u231, u232, u233, u234, u235, u236, u237, u238, u239, u240, u241, u242, u243, u244, u245, u246, u247, u248, u249, u250, u251, u252, u253, u254, u255, u256, u257, u258, u259, u260, u261, u262, u263, u264, u265, u266, u267, u268, u269, u270, u271] := ⟨T.getD 28 undef, T.getD 30 undef, by rw [← hg4, ← hg5]; exact hT1⟩
      clear hT1 hk hT hv4 hv5 hk4 hk5 hg4 hg5
      subst hTT
      have HB4 := Lib.hid (HB3.out.trans (hS.mono HB3.out.size))
      have HK4 := Lib.hid (HK3.out.below hS HK3.out.lt)
      have HR4 := Lib.hid (HR3.out.below hS HR3.out.lt)
      unfold pT at hp4 hp5
      rw [if_pos (by decide)] at hp4
      rw [if_neg (by decide)] at hp5
      obtain ⟨Bm, L1, hBm, rfl, hbm, hLv1⟩ := hp4
      obtain ⟨Bi, L2, R, hBi, rfl, hbi, hLv2, hRc⟩ := hp5
      obtain rfl := HLv.out.unique hLv1
      obtain rfl := HLv.out.unique hLv2
      have HRL : Hid (ReachL g L R) := Lib.hid ((reachU_iff H11.out (.inl rfl)).1 hRc)
      have Hbm := Lib.hid hbm
      have Hbi := Lib.hid hbi
      have lm := hbm.lt
      have li := hbi.lt
      clear hS hN H38 H39 HKc3 HK3 HR3 hbm hbi hLv1 hLv2 hRc HK1 HR1 HKc l3 HB3
      obtain ⟨c0, c1, c2, c3, c4⟩ := cells5 HK4.out
      have l4 := HK4.out.lt
      have hmk1 := fun w' => make_ints g.sorts.length hms w'
      have hmk2 := fun w' => make_ints g.prods.length hmp w'
      go_upto_region 4 with fail
      go_cut [6, 7] (fun s6 s7 wx => ∃ Bs Bp, s6 = .slice (some ⟨Bs, 0, none⟩) g.sorts.length g.sorts.length ∧ s7 = .slice (some ⟨Bp, 0, none⟩) g.prods.length g.prods.length ∧ Hid (Below w4.heap.size w4 wx ∧ w4.heap.size ≤ Bs ∧ w4.heap.size ≤ Bp ∧ Bs ≠ Bp ∧ Blk wx Bs 3 (Array.replicate g.sorts.length (.int .i64 0)) ∧ Blk wx Bp 3 (Array.replicate g.prods.length (.int .i64 0))))
      case first =>
        go_wp2
        go_region
        all_goals (go_wp2; go_meet)
        · obtain ⟨k1, k2, k3⟩ := twoMake w4 (Array.replicate g.sorts.length (.int .i64 0)) (Array.replicate g.prods.length (.int .i64 0))
          exact ⟨_, _, rfl, rfl, Lib.hid ⟨k1, Nat.le_refl _, Nat.le_succ _, by omega, k2, k3⟩⟩
        · obtain ⟨k1, k2, k3⟩ := twoMake w4 (Array.replicate g.prods.length (.int .i64 0)) (Array.replicate g.sorts.length (.int .i64 0))
          exact ⟨_, _, rfl, rfl, Lib.hid ⟨k1, Nat.le_succ _, Nat.le_refl _, by omega, k3, k2⟩⟩
      obtain ⟨Bs, Bp, rfl, rfl, HC⟩ := hcut
      clear hmk1 hmk2
      go_upto_region 5 with fail
      exact rtrim_tail3 HM HG HGr HPa HFa HWa hmp hms hff hfw HF' HRL HNil HSt HSa HL1 hstn HLv HB1 HB4 HK4 HR4 Hbm Hbi hBm hBi lm li HC _ (by assumption)
end Go.Proofs.Ytiihdbchchnncaa
end
