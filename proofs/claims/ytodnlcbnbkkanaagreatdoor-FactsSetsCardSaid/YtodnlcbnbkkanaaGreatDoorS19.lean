import Derived.BigQuiet
import Derived.Deep.QuietTactic
import Derived.Deep.CutBlock
import Derived.Test.YtodnlcbnbkkanaaGreatDoorS18
section
namespace Go.Proofs.YtodnlcbnbkkanaaGreatDoor
open Go Go.RowKit

theorem inBlock_then (n : Nat) (K : Act → World → Prop) (Q : Exit → Act → World → Prop) : Exit.inBlock n (Exit.then K Q) = Exit.then K (Exit.inBlock n (Exit.then K Q)) := by
 funext e a w
 cases e <;> rfl

set_option maxRecDepth 100000 in
set_option maxHeartbeats 16000000 in
theorem rfollow_any (g : GramM) (hm : MayB g) (hs : MaySet g) (w : World) (hg : GIn w g) : Calls Tryz.prog 27 #[gramV g] w (RFollowPost g w) := by
 have HA := Lib.hid (And.intro hm (And.intro hs hg))
 have hn1 := hm.sorts2
 have hn2 := hm.prods
 obtain ⟨st, hst, hstn⟩ := hm.start
 have HSt := Lib.hid hst
 have HSh := Lib.hid (fun W (hW : Below w.heap.size w W) => rshort_weak g hm hs W (hg.below hW))
 have HNu := Lib.hid (fun W (hW : Below w.heap.size w W) => rnull_weak g hm hs W (hg.below hW))
 have HFi := Lib.hid (fun W (hW : Below w.heap.size w W) => rfirst_weak g hm hs W (hg.below hW))
 have HB0 : Hid (Below w.heap.size w (w.alloc (.cells (gramC g) 27))) := Lib.hid ((Below.refl _ _).alloc (Nat.le_refl _) _)
 have HK0 : Hid (Blk (w.alloc (.cells (gramC g) 27)) w.heap.size 27 (gramC g)) := Lib.hid (Blk.new w 27 _)
 obtain ⟨n, hn⟩ : ∃ n, n = g.sorts.length := ⟨_, rfl⟩
 obtain ⟨np, hnp⟩ : ∃ n, n = g.prods.length := ⟨_, rfl⟩
 have N1 := Lib.hid hn
 have N2 := Lib.hid hnp
 unfold RFollowPost
 rw [← hn] at hn1 HSh HNu HFi hstn
 rw [← hnp] at hn2
 clear hm hs hg
 unfold gramV gramC at *
 rw [← hn, ← hnp, hst] at HB0 HK0 HSh HNu HFi ⊢
 have HGr : Hid (gramC g = #[.slice g.sa n g.sc, .slice g.pa np g.pc, .int .i64 (st : Int), .slice g.fa g.forbid.length g.fc, .slice g.wa g.follow.length g.wc]) := Lib.hid (by rw [hn, hnp, ← hst]; rfl)
 clear hn hnp hst
 go_enter Tryz.func27, Tryz.ntmps27
 go_upto_region 1 with fail
 go_cut [4, 5, 6] from 19 to 24 (fun s4 s5 s6 wx => ∃ Bs Bn Bf S M F, s4 = .slice (some ⟨Bs, 0, none⟩) n n ∧ s5 = .slice (some ⟨Bn, 0, none⟩) n n ∧ s6 = .slice (some ⟨Bf, 0, none⟩) n n ∧ Hid (ThreeC g w Bs Bn Bf S M F wx))
 case first =>
  obtain ⟨c0, c1, c2, c3, c4⟩ := cells5s HK0.out
  have l0 := HK0.out.lt
  go_region_law (first
   | (go_simp; go_at_call 30; refine (HSh.out _ HB0.out.drew).mono ?_; rintro e ws ⟨S, Bs, hS, rfl, hbs, hks, hBs⟩; have HS := Lib.hid hS; have HKs := Lib.hid hks; have HBs := Lib.hid (HB0.out.drew.trans (hBs.mono HB0.out.drew.size)); have HK1 := Lib.hid (HK0.out.drew.below hBs HK0.out.drew.lt); obtain ⟨d0, d1, d2, d3, d4⟩ := cells5s HK1.out; have l1 := HK1.out.lt; clear hS hbs hks hBs)
   | (go_simp; go_at_call 20; refine (HNu.out _ HBs.out).mono ?_; rintro e wn ⟨M, Bn, hM, rfl, hbn, hkn, hBn⟩; have HM := Lib.hid hM; have HKn := Lib.hid hkn; have HBn := Lib.hid (HBs.out.trans (hBn.mono HBs.out.size)); have HK2 := Lib.hid (HK1.out.below hBn HK1.out.lt); have HKs2 := Lib.hid (HKs.out.below hBn HKs.out.lt); obtain ⟨f0, f1, f2, f3, f4⟩ := cells5s HK2.out; have l2 := HK2.out.lt; clear hM hbn hkn hBn)
   | (go_simp; go_at_call 26; refine (HFi.out _ HBn.out).mono ?_; rintro e wf ⟨F, Bf, hF, rfl, hbf, hkf, hBf⟩; have HF := Lib.hid hF; have HKf := Lib.hid hkf; have HBf := Lib.hid hBf; clear hF hbf hkf hBf))
  all_goals (
   go_wp2
   go_meet
   case rel =>
    exact ⟨_, _, _, S, M, F, rfl, rfl, rfl, Lib.hid ⟨by rw [HGr.out]; exact HK2.out.below HBf.out HK2.out.lt, HKs2.out.below HBf.out HKs2.out.lt, HKn.out.below HBf.out HKn.out.lt, HKf.out, HBn.out.trans (HBf.out.mono HBn.out.size), HS.out, HM.out, HF.out⟩⟩)
 obtain ⟨Bs, Bn, Bf, S, M, F, rfl, rfl, rfl, HT⟩ := hcut
 clear HSh HNu HFi HB0 HK0
 have HT0 := Lib.hid (show Blk wc w.heap.size 27 #[.slice g.sa n g.sc, .slice g.pa np g.pc, .int .i64 (st : Int), .slice g.fa g.forbid.length g.fc, .slice g.wa g.follow.length g.wc] by rw [← HGr.out]; exact HT.out.b0)
 obtain ⟨c0, c1, c2, c3, c4⟩ := cells5s HT0.out
 have lc := HT0.out.lt
 have hmk1 := fun w' => make_sets n hn1 w'
 have hmk2 := fun w' => make_many n (by omega) w'
 have HL := Lib.hid (live_short HA.out.1 HA.out.2.1 HT.out.sp)
 -- the first row of marks
 obtain ⟨RI, hRI⟩ : ∃ RI : Array Value, RI = bools (List.replicate n false) := ⟨_, rfl⟩
 obtain ⟨RO, hRO⟩ : ∃ RO : Array Value, RO = setsC (List.replicate n 0#256) := ⟨_, rfl⟩
 have HRI := Lib.hid (And.intro hRI hRO)
 rw [← hRI] at hmk2
 rw [← hRO] at hmk1
 obtain ⟨W1, hW1⟩ : ∃ W1, W1 = wc.alloc (.cells RI 4) := ⟨_, rfl⟩
 have HW1 := Lib.hid hW1
 obtain ⟨Bi, hBi⟩ : ∃ Bi, Bi = wc.heap.size := ⟨_, rfl⟩
 have HBi := Lib.hid hBi
 have HT1 : Hid (ThreeC g w Bs Bn Bf S M F W1 ∧ Blk W1 Bi 4 (bools (List.replicate n false)) ∧ (w.heap.size < Bi ∧ Bn < Bi ∧ Bf < Bi)) := Lib.hid (by
  refine ⟨by rw [hW1]; exact HT.out.below ((Below.refl _ _).alloc (Nat.le_refl _) _), by rw [hW1, hBi, hRI]; exact Blk.new wc 4 _, ?_⟩
  rw [hBi]
  exact ⟨lc, HT.out.nl.lt, HT.out.f.lt⟩)
 clear hRI hRO hW1 hBi
 go_upto_region 3 with fail
 rw [← HBi.out, ← HW1.out]
 have HT2 := Lib.hid (show Blk W1 w.heap.size 27 #[.slice g.sa n g.sc, .slice g.pa np g.pc, .int .i64 (st : Int), .slice g.fa g.forbid.length g.fc, .slice g.wa g.follow.length g.wc] by rw [← HGr.out]; exact HT1.out.1.b0)
 clear c0 c1 c2 c3 c4 lc HT0
 obtain ⟨c0, c1, c2, c3, c4⟩ := cells5s HT2.out
 have lc := HT2.out.lt
 go_cut [8, 9] from 29 to 36 (fun s8 s9 wx => ∃ Bo Be, s8 = .slice (some ⟨Bo, 0, none⟩) n n ∧ s9 = .slice (some ⟨Be, 0, none⟩) n n ∧ Hid (LB g w Bs Bn Bf Bi Bo Be S M F (List.replicate n false) (List.replicate n 0#256) (List.replicate n false) wx))
 case first =>
  go_region
  all_goals (
   go_wp2
   go_meet
   case rel =>
    refine ⟨_, _, rfl, rfl, Lib.hid ?_⟩
    rw [HRI.out.1, HRI.out.2]
    first
     | exact LB.make1 (HT1.out.1.below (Below.refl _ _).drew) HT1.out.2.1.drew HT1.out.2.2
     | exact LB.make2 (HT1.out.1.below (Below.refl _ _).drew) HT1.out.2.1.drew HT1.out.2.2)
 obtain ⟨Bo, Be, rfl, rfl, HI⟩ := hcut
 clear hmk1 hmk2 c0 c1 c2 c3 c4 lc HT2 HRI HW1 HBi
 obtain ⟨v, hv⟩ : ∃ v, v = gi S (st : Int) := ⟨_, rfl⟩
 have HV := Lib.hid hv
 obtain ⟨cc, hcc⟩ : ∃ cc, cc = decide (0 ≤ v) := ⟨_, rfl⟩
 have HCc : Hid (cc = true ↔ 0 ≤ gi S g.start) := Lib.hid (by rw [HSt.out, ← hv, hcc, decide_eq_true_iff])
 have HHcc := Lib.hid hcc
 have hSl : st < S.length := by rw [HT.out.sp.1, ← N1.out]; exact hstn
 have HSget : Hid ((ints S)[st]? = some (.int .i64 v)) := Lib.hid (by
  rw [ints_at _ _ hSl, hv, gi_some (i := (st : Int)) (by rw [Int.toNat_natCast]; exact List.getElem?_eq_getElem hSl)])
 have kz1 : (st : Int) < (n : Int) := by omega
 have kz0 : (0 : Int) ≤ (st : Int) := by omega
 clear hv hSl hcc
 have HG3 := Lib.hid (show Blk wc w.heap.size 27 #[.slice g.sa n g.sc, .slice g.pa np g.pc, .int .i64 (st : Int), .slice g.fa g.forbid.length g.fc, .slice g.wa g.follow.length g.wc] by rw [← HGr.out]; exact HI.out.b0)
 obtain ⟨c0, c1, c2, c3, c4⟩ := cells5s HG3.out
 have lc := HG3.out.lt
 have ts := (HI.out.s.cell st).trans HSget.out
 have tsl := HI.out.s.lt
 have ti := HI.out.i.cell st
 rw [bools_at _ _ (by simpa using hstn)] at ti
 have til := HI.out.i.lt
 have tif := HI.out.i.frozen st
 go_upto_region 4 with fail
 go_cut [7] from 37 to 46 (fun s7 wx => s7 = .slice (some ⟨Bi, 0, none⟩) n n ∧ Hid (LB g w Bs Bn Bf Bi Bo Be S M F ((List.replicate n false).set st cc) (List.replicate n 0#256) (List.replicate n false) wx))
 case first =>
  go_region
  all_goals (
   go_wp2
   go_meet
   case rel =>
    refine ⟨rfl, Lib.hid ?_⟩
    have h := fun k => (HI.out.below (below_drewN (Below.refl _ _) k)).setI st cc
    have h2 := (HI.out.below (Below.refl _ _).drew).setI st cc
    rw [HHcc.out] at h h2 ⊢
    first | exact h2 | exact h 1 | exact h2.below (Below.refl _ _).drew | exact HI.out.setI st _ | exact (HI.out.setI st _).below (Below.refl _ _).drew)
 obtain ⟨rfl, HI2⟩ := hcut
 clear c0 c1 c2 c3 c4 lc ts tsl ti til tif HG3 HI HSget
 have HG3 := Lib.hid (show Blk wc w.heap.size 27 #[.slice g.sa n g.sc, .slice g.pa np g.pc, .int .i64 (st : Int), .slice g.fa g.forbid.length g.fc, .slice g.wa g.follow.length g.wc] by rw [← HGr.out]; exact HI2.out.b0)
 obtain ⟨c0, c1, c2, c3, c4⟩ := cells5s HG3.out
 have lc := HG3.out.lt
 have ti := HI2.out.i.cell st
 rw [bools_at _ _ (by simpa using hstn)] at ti
 have hlv : lv ((List.replicate n false).set st cc) (st : Int) = cc := by
  unfold lv
  rw [Int.toNat_natCast, List.getD_eq_getElem?_getD, List.getElem?_set_self (by simpa using hstn)]; rfl
 rw [hlv] at ti
 have til := HI2.out.i.lt
 have te := HI2.out.e.cell st
 rw [bools_at _ _ (by simpa using hstn)] at te
 have tel := HI2.out.e.lt
 have tef := HI2.out.e.frozen st
 clear hlv
 go_upto_region 5 with fail
 go_cut [9] from 47 to 55 (fun s9 wx => s9 = .slice (some ⟨Be, 0, none⟩) n n ∧ Hid (LB g w Bs Bn Bf Bi Bo Be S M F ((List.replicate n false).set st cc) (List.replicate n 0#256) ((List.replicate n false).set st cc) wx))
 case first =>
  go_region
  all_goals (
   go_wp2
   go_meet
   case rel =>
    refine ⟨rfl, Lib.hid ?_⟩
    have h := fun k => (HI2.out.below (below_drewN (Below.refl _ _) k)).setE st cc
    have h2 := (HI2.out.below (Below.refl _ _).drew).setE st cc
    first | exact h2 | exact h 1 | exact h2.below (Below.refl _ _).drew | exact HI2.out.setE st cc | exact (HI2.out.setE st cc).below (Below.refl _ _).drew)
 obtain ⟨rfl, HI3⟩ := hcut
 have HI0 : Hid (LBB g w Bs Bn Bf Bi Bo Be S M F ((List.replicate n noB).set st ⟨cc, 0#256, cc⟩) wc) := Lib.hid (LBB.start HI3.out)
 have HSd : Hid (SoundB g ((List.replicate n noB).set st ⟨cc, 0#256, cc⟩) ∧ ((List.replicate n noB).set st ⟨cc, 0#256, cc⟩).length = g.sorts.length) := Lib.hid (by
  have h := soundB_first HA.out.1 HA.out.2.1 HT.out.sp n N1.out cc HCc.out
  rw [HSt.out, Int.toNat_natCast] at h
  exact ⟨h, by rw [List.length_set, List.length_replicate, N1.out]⟩)
 obtain ⟨B0, hB0⟩ : ∃ B0, B0 = (List.replicate n noB).set st ⟨cc, 0#256, cc⟩ := ⟨_, rfl⟩
 rw [← hB0] at HI0 HSd
 have hlow : w.heap.size < Bi ∧ Bi < Bo ∧ Bi < Be := ⟨HI3.out.low.1, HI3.out.low.2.2.2.1, HI3.out.low.2.2.2.2⟩
 obtain ⟨hl1, hl2, hl3⟩ := hlow
 clear c0 c1 c2 c3 c4 lc ti til te tel tef HG3 HI2 HI3 hB0 HCc HHcc HV kz0 kz1
 have HT := Lib.hid (And.intro HT.out HT.out.sp)
 go_wp2
 go_loopg [10] (sizeB B0 + 1) (fun gg vc wr => ∃ (c : Bool) (B : List BackM), vc = .bool c ∧ Hid (LBB g w Bs Bn Bf Bi Bo Be S M F B wr ∧ SoundB g B ∧ B.length = g.sorts.length ∧ (c = false → BackP g B) ∧ (c = true → sizeB B + 1 ≤ gg)))
 case atStart => exact ⟨true, B0, rfl, Lib.hid ⟨HI0.out, HSd.out.1, HSd.out.2, (fun h => by cases h), fun _ => Nat.le_refl _⟩⟩
 case round =>
  clear HI0 HSd
  obtain ⟨c, B, rfl, K⟩ := hrel
  cases c with
  | false =>
   have HP := Lib.hid (K.out.2.2.2.1 rfl)
   have HK := Lib.hid K.out.1
   clear K
   go_wp2
   go_ret2
   exact ⟨B, Bo, Be, HP.out, rfl, by omega, by omega, LB.o HK.out, LB.e HK.out, LB.b HK.out⟩
  | true =>
   have HGg : Hid (sizeB B + 1 ≤ gk) := Lib.hid (K.out.2.2.2.2 rfl)
   have HI0 : Hid (LBB g w Bs Bn Bf Bi Bo Be S M F B wr ∧ RoundB g F M (liveS S) B B false (QB g F M (liveS S) 0)) := Lib.hid ⟨K.out.1, K.out.2.2.1, K.out.2.1, (fun _ => ⟨rfl, fun i x hi => by omega⟩), fun h => by cases h⟩
   clear K
   go_wp2
   obtain ⟨wo, rfl⟩ : ∃ wo : World, wo = wr := ⟨_, rfl⟩
   go_loopw [10, 11] (fun vc vj wr => ∃ (c : Bool) (j : Nat) (B' : List BackM), vc = .bool c ∧ vj = .int .i64 j ∧ j ≤ np ∧ Hid (LBB g w Bs Bn Bf Bi Bo Be S M F B' wr ∧ RoundB g F M (liveS S) B B' c (QB g F M (liveS S) j))) (fun _ vj _ => np - (intOf vj).toNat)
   case atStart => exact ⟨false, 0, B, rfl, rfl, Nat.zero_le _, HI0⟩
   case round =>
    clear HI0
    obtain ⟨c, j, B', rfl, rfl, hj, K⟩ := hrel
    have hb0 : Blk wr w.heap.size 27 #[.slice g.sa n g.sc, .slice g.pa np g.pc, .int .i64 (st : Int), .slice g.fa g.forbid.length g.fc, .slice g.wa g.follow.length g.wc] := by rw [← HGr.out]; exact LB.b0 K.out.1
    obtain ⟨c0, c1, c2, c3, c4⟩ := cells5s hb0
    have l0 := hb0.lt
    by_cases hlj : j < np
    ·obtain ⟨x, hx⟩ : ∃ x, g.prods[j]? = some x := ⟨_, List.getElem?_eq_getElem (by rw [← N2.out]; exact hlj)⟩
     obtain ⟨b1, o1, e1, hb1, hc1, hi1⟩ := HA.out.2.2.prods j x hx
     obtain ⟨x0, x1, x2, x3, x4, x5, x6⟩ := Prod_at (hc1.below (LB.b K.out.1) hb1)
     have hb1' := Nat.lt_of_lt_of_le hb1 (LB.b K.out.1).size
     have y2 : (j : Int) < (np : Int) := by omega
     have y0 : (0 : Int) ≤ (j : Int) := by omega
     have hxm := List.mem_of_getElem? hx
     have HX := Lib.hid hx
     obtain ⟨k, hk, hkn⟩ := HA.out.1.left x hxm
     rw [← N1.out] at hkn
     have HXI := Lib.hid (And.intro hi1 (And.intro (HA.out.1.right x hxm) (And.intro (HA.out.1.kind x hxm) (HA.out.1.sym x hxm))))
     have HXb := Lib.hid (Blk.new wr 65 (prodC x))
     have HK1 := Lib.hid (K.out.1.below (V := wr.alloc (.cells (prodC x) 65)) ((Below.refl _ _).alloc (Nat.le_refl _) _))
     have HTr := Lib.hid (fun W => rtree_any x W)
     have HSum := Lib.hid (fun W (hW : LBB g w Bs Bn Bf Bi Bo Be S M F B' W) => rsum_any x S (some ⟨Bs, 0, none⟩) S.length W (LB.s hW).irow (by rw [HT.out.1.sp.1]; exact HA.out.1.sorts2) HT.out.1.sp.sound.lo (hi1.below (LB.b hW)) (HA.out.1.right x hxm) (fun s hs hk => by rw [HT.out.1.sp.1]; exact HA.out.1.sym x hxm s hs hk))
     have hSl : S.length = n := by rw [HT.out.1.sp.1, ← N1.out]
     rw [hSl] at HSum
     have HLive := Lib.hid (mem_live HA.out.1 HA.out.2.1 HT.out.1.sp hxm)
     have HLn := Lib.hid (show B'.length = n by rw [K.out.2.len, ← N1.out])
     obtain ⟨b0, hb0k⟩ : ∃ b0, B'[k]? = some b0 := ⟨_, List.getElem?_eq_getElem (by rw [HLn.out]; exact hkn)⟩
     have HB0k := Lib.hid hb0k
     have hg0 : B'.getD x.left.toNat noB = b0 := by rw [hk, Int.toNat_natCast, List.getD_eq_getElem?_getD, hb0k]; rfl
     have HSkip := Lib.hid (fun h => K.out.2.skip (c := c) hx h)
     rw [hg0] at HSkip
     have HInto := Lib.hid (K.out.2.into (c := c) (x := x))
     have HG0 := Lib.hid hg0
     obtain ⟨t, ht⟩ : ∃ t, t = sumA S x.right 0 := ⟨_, rfl⟩
     rw [← ht] at HSum HLive
     obtain ⟨th, hth⟩ : ∃ th, th = b0.there := ⟨_, rfl⟩
     have HTh0 := Lib.hid hth
     rw [← hth] at HSkip
     rw [e1] at c1
     clear K hx hi1 hc1 hxm e1 hb0 hSl ht hb0k hg0 hth
     obtain ⟨xf, xra, xrc, xr, xco, xro, xpr, xav, xfr⟩ := x
     unfold prodV at HSum HTr
     unfold prodC at HSum HXb HK1 HTr
     dsimp only at *
     subst hk
     obtain ⟨xn, hxn⟩ : ∃ xn, xn = xr.length := ⟨_, rfl⟩
     have HXn := Lib.hid hxn
     rw [← hxn] at HXb HK1 HTr HSum x1
     have hx30 : xn ≤ 30 := by rw [hxn]; exact HXI.out.2.1
     obtain ⟨Bp, hBp⟩ : ∃ Bp, Bp = wr.heap.size := ⟨_, rfl⟩
     have HBp := Lib.hid hBp
     rw [← hBp] at HXb
     have hpo : Bp ≠ Bo := blk_ne HXb.out (LB.o HK1.out) (by decide)
     have hpe : Bp ≠ Be := blk_ne HXb.out (LB.e HK1.out) (by decide)
     have hpi : Bp ≠ Bi := blk_ne HXb.out (LB.i HK1.out) (by decide)
     clear hxn hBp
     go_wp2_with fail
     rw [← HBp.out]
     with_reducible refine (HTr.out _).mono ?_
     rintro e w3 ⟨rfl, hB3⟩
     have HK3 := Lib.hid (HK1.out.below hB3)
     have HX3 := Lib.hid (HXb.out.below hB3 HXb.out.lt)
     obtain ⟨d0, d1, d2, d3, d4, d5, d6⟩ := cells7g HX3.out
     have dl := HX3.out.lt
     clear hB3 HTr HXb HK1 x0 x1 x2 x3 x4 x5 x6 c0 c1 c2 c3 c4 l0 hb1 hb1' HBp
     cases hr : (xro == 11) with
     | true =>
      have HZ : Hid (LBB g w Bs Bn Bf Bi Bo Be S M F B' w3 ∧ RoundB g F M (liveS S) B B' c (QB g F M (liveS S) (j + 1))) := Lib.hid ⟨HK3.out, HSkip.out (fun h => absurd (by simpa using hr) (HLive.out.1 h).1)⟩
      clear HK3 HX3 HSkip HInto HSum HLive hr
      go_wp2
      go_roundw
      case rel => exact ⟨c, j + 1, B', rfl, by go_num, by omega, HZ⟩
      case measure => simp [intOf]; omega
     | false =>
      have Hr : Hid (¬ xro = 11) := Lib.hid (by simpa using hr)
      have HSum3 := Lib.hid (HSum.out w3 HK3.out)
      clear HSum hr
      go_wp2_with fail
      with_reducible refine HSum3.out.mono ?_
      rintro e w4 ⟨rfl, hB4⟩
      have HF4 := Lib.hid (HK3.out.below hB4)
      have HP4 := Lib.hid (HX3.out.below hB4 HX3.out.lt)
      obtain ⟨d0, d1, d2, d3, d4, d5, d6⟩ := cells7g HP4.out
      have dl := HP4.out.lt
      clear hB4 HSum3 HK3 HX3
      by_cases ht : t < 0
      ·have e1 : decide (t < 0) = true := by simpa using ht
       have HZ : Hid (LBB g w Bs Bn Bf Bi Bo Be S M F B' w4 ∧ RoundB g F M (liveS S) B B' c (QB g F M (liveS S) (j + 1))) := Lib.hid ⟨HF4.out, HSkip.out (fun h => absurd (HLive.out.1 h).2 (by omega))⟩
       clear HF4 HP4 HSkip HInto HLive ht
       go_wp2
       go_roundw
       case rel => exact ⟨c, j + 1, B', rfl, by go_num, by omega, HZ⟩
       case measure => simp [intOf]; omega
      ·have e1 : decide (t < 0) = false := by simpa using ht
       have HLive := Lib.hid (HLive.out.2 ⟨Hr.out, by omega⟩)
       have hia := (HF4.out.at HB0k.out).1
       rw [← HTh0.out] at hia
       have hil := (LB.i HF4.out).lt
       have kz1 : (k : Int) < (n : Int) := by omega
       have kz0 : (0 : Int) ≤ (k : Int) := by omega
       clear ht
       cases th with
       | false =>
        have HZ : Hid (LBB g w Bs Bn Bf Bi Bo Be S M F B' w4 ∧ RoundB g F M (liveS S) B B' c (QB g F M (liveS S) (j + 1))) := Lib.hid ⟨HF4.out, HSkip.out (fun _ => rfl)⟩
        clear HF4 HP4 HSkip HInto HLive
        go_wp2
        go_roundw
        case rel => exact ⟨c, j + 1, B', rfl, by go_num, by omega, HZ⟩
        case measure => simp [intOf]; omega
       | true =>
        have HI3 : Hid (LBB g w Bs Bn Bf Bi Bo Be S M F B' w4 ∧ Blk w4 Bp 65 #[.int .i64 (k : Int), .slice xra xn xrc, .string xco, .int .i64 xro, .bool xpr, .bool xav, .int .i64 xfr] ∧ RoundB g F M (liveS S) B B' c (QX g F M (liveS S) j ⟨(k : Int), xra, xrc, xr, xco, xro, xpr, xav, xfr⟩ 0) ∧ (B'.getD ((k : Int)).toNat noB).there = true) := Lib.hid ⟨HF4.out, HP4.out, HInto.out, by rw [HG0.out]; exact HTh0.out.symm⟩
        clear HF4 HP4 HSkip HInto HLn HB0k HG0 HTh0
        have HFp := Lib.hid HT.out.1.fp
        have HNp := Lib.hid HT.out.1.np
        go_upto_block 4 with fail
        rw [inBlock_then]
        with_reducible refine rfollow_loop3 HA N1 hn1 HFp HNp HL HXn hx30 HXI HX HLive hkn hpo hpe hpi HI3 (Lib.hid ?_)
        intro c' BB' w' y13 y14 y15 y16 y17 y18 y86 y87 y88 y89 y90 y91 y92 y93 y94 y95 y96 y97 y98 y99 y100 y101 y102 y103 y104 y105 y106 y107 y108 y109 y110 y111 y112 y113 y114 y115 y116 y117 y118 y119 y120 y121 y122 y123 y124 y125 y126 y127 y128 y129 y130 y131 y132 y133 y134 y135 y136 y137 y138 y139 y140 y141 y142 y143 y144 y145 y146 y147 y148 y149 y150 y151 y152 y153 y154 y155 y156 y157 y158 y159 y160 y161 y162 y163 y164 y165 y166 y167 y168 y169 y170 y171 y172 y173 y174 y175 y176 y177 y178 y179 y180 y181 y182 y183 y184 y185 y186 y187 y188 y189 y190 y191 y192 y193 y194 y195 y196 y197 y198 y199 HZ
        rename_i K1 hK1 q0 q1 q2 q3 q4 q5 q6 q7
        with_reducible refine hK1 _ _ ?_
        clear q0 q1 q2 q3 q4 q5 q6 q7 hK1 K1
        clear HI3 d0 d1 d2 d3 d4 d5 d6 dl hia hil e1
        go_wp2
        go_roundw
        case rel => exact ⟨c', j + 1, BB', rfl, by go_num, by omega, HZ⟩
        case measure => simp [intOf]; omega
    ·obtain rfl : np = j := by omega
     have HZ : Hid (LBB g w Bs Bn Bf Bi Bo Be S M F B' wr ∧ SoundB g B' ∧ B'.length = g.sorts.length ∧ (c = false → BackP g B') ∧ (c = true → sizeB B' + 1 ≤ sizeB B)) := Lib.hid ⟨K.out.1, K.out.2.sound, K.out.2.len, (fun hc => by subst hc; exact K.out.2.done HA.out.1 HA.out.2.1 HT.out.1.np HL.out HT.out.1.fp (by rw [N2.out]; exact Nat.le_refl _)), fun hc => K.out.2.yes hc⟩
     clear K
     go_wp2
     go_roundg (sizeB B)
     case rel => exact ⟨c, B', rfl, HZ⟩
     case measure => exact HGg.out
end Go.Proofs.YtodnlcbnbkkanaaGreatDoor
end
