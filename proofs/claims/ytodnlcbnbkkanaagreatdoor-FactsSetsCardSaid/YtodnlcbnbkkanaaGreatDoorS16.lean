import Derived.StillTailTactics
import Derived.BigQuiet
import Derived.Deep.QuietTactic
import Derived.Deep.CutBlock
import Derived.Test.YtodnlcbnbkkanaaGreatDoorS15
section
namespace Go.Proofs.YtodnlcbnbkkanaaGreatDoor
open Go Go.RowKit

set_option maxRecDepth 100000 in
set_option maxHeartbeats 8000000 in
theorem rfirst_any (g : GramM) (hm : MayB g) (hs : MaySet g) (w : World) (hg : GIn w g) : Calls Tryz.prog 26 #[gramV g] w (RSetsPost w (FirstP g)) := by
 have HA := Lib.hid (And.intro hm (And.intro hs hg))
 have hn1 := hm.sorts2
 have hn2 := hm.prods
 have HSh := Lib.hid (fun W (hW : Below w.heap.size w W) => rshort_weak g hm hs W (hg.below hW))
 have HNu := Lib.hid (fun W (hW : Below w.heap.size w W) => rnull_weak g hm hs W (hg.below hW))
 have HB0 : Hid (Below w.heap.size w (w.alloc (.cells (gramC g) 27))) := Lib.hid ((Below.refl _ _).alloc (Nat.le_refl _) _)
 have HK0 : Hid (Blk (w.alloc (.cells (gramC g) 27)) w.heap.size 27 (gramC g)) := Lib.hid (Blk.new w 27 _)
 obtain ⟨n, hn⟩ : ∃ n, n = g.sorts.length := ⟨_, rfl⟩
 obtain ⟨np, hnp⟩ : ∃ n, n = g.prods.length := ⟨_, rfl⟩
 have N1 := Lib.hid hn
 have N2 := Lib.hid hnp
 rw [← hn] at hn1 HSh HNu
 rw [← hnp] at hn2
 clear hm hs hg
 unfold gramV gramC at *
 rw [← hn, ← hnp] at HB0 HK0 HSh HNu ⊢
 have HGr : Hid (gramC g = #[.slice g.sa n g.sc, .slice g.pa np g.pc, .int .i64 g.start, .slice g.fa g.forbid.length g.fc, .slice g.wa g.follow.length g.wc]) := Lib.hid (by rw [hn, hnp]; rfl)
 clear hn hnp
 go_enter Tryz.func26, Tryz.ntmps26
 go_upto_region 1 with fail
 go_cut [3, 4] from 13 (fun s3 s4 wx => ∃ Bs Bn S M, s3 = .slice (some ⟨Bs, 0, none⟩) n n ∧ s4 = .slice (some ⟨Bn, 0, none⟩) n n ∧ Hid (TwoC g w Bs Bn S M wx ∧ w.heap.size < Bs ∧ w.heap.size < Bn))
 case first =>
  obtain ⟨c0, c1, c2, c3, c4⟩ := cells5s HK0.out
  have l0 := HK0.out.lt
  go_region_law (first
   | (go_simp; go_at_call 30; refine (HSh.out _ HB0.out.drew).mono ?_; rintro e ws ⟨S, Bs, hS, rfl, hbs, hks, hBs⟩; have HS := Lib.hid hS; have HKs := Lib.hid hks; have HBs := Lib.hid (HB0.out.drew.trans (hBs.mono HB0.out.drew.size)); have HK1 := Lib.hid (HK0.out.drew.below hBs HK0.out.drew.lt); have Hbs := Lib.hid hbs; obtain ⟨d0, d1, d2, d3, d4⟩ := cells5s HK1.out; have l1 := HK1.out.lt; clear hS hbs hks hBs)
   | (go_simp; go_at_call 20; refine (HNu.out _ HBs.out).mono ?_; rintro e wn ⟨M, Bn, hM, rfl, hbn, hkn, hBn⟩; have HM := Lib.hid hM; have HKn := Lib.hid hkn; have HBn := Lib.hid hBn; have Hbn := Lib.hid hbn; clear hM hbn hkn hBn))
  all_goals (
   go_wp2
   go_meet
   case rel =>
    refine ⟨_, _, S, M, rfl, rfl, Lib.hid ⟨⟨by rw [HGr.out]; exact HK1.out.below HBn.out HK1.out.lt, HKs.out.below HBn.out HKs.out.lt, HKn.out, HBs.out.trans (HBn.out.mono HBs.out.size), HS.out, HM.out⟩, ?_, ?_⟩⟩
    ·have := Hbs.out; simp at this; omega
    ·have := Hbn.out; have := HK1.out.lt; omega)
 obtain ⟨Bs, Bn, S, M, rfl, rfl, HT⟩ := hcut
 clear HSh HNu HB0 HK0
 have HT0 := Lib.hid (show Blk wc w.heap.size 27 #[.slice g.sa n g.sc, .slice g.pa np g.pc, .int .i64 g.start, .slice g.fa g.forbid.length g.fc, .slice g.wa g.follow.length g.wc] by rw [← HGr.out]; exact HT.out.1.b0)
 obtain ⟨c0, c1, c2, c3, c4⟩ := cells5s HT0.out
 have lc := HT0.out.lt
 have hmk := fun w' => make_sets n hn1 w'
 have HL := Lib.hid (live_short HA.out.1 HA.out.2.1 HT.out.1.sp)
 have HF0 : Hid (FB g w Bs Bn wc.heap.size S M (List.replicate n 0#256) (wc.alloc (.cells (setsC (List.replicate n 0#256)) 47))) := Lib.hid (by
  have h0 := HT.out.1
  exact ⟨h0.b0.alloc _, h0.s.alloc _, h0.nl.alloc _, Blk.new wc 47 _, h0.b.alloc h0.b.size _, HT0.out.lt⟩)
 have HSd : Hid (SoundF g (List.replicate n 0#256) ∧ (List.replicate n 0#256).length = g.sorts.length) := Lib.hid (by rw [N1.out]; exact ⟨SoundF.none g, by simp⟩)
 obtain ⟨Bo, hBo⟩ : ∃ Bo, Bo = wc.heap.size := ⟨_, rfl⟩
 have HBo := Lib.hid hBo
 rw [← hBo] at HF0
 obtain ⟨RL, hRL⟩ : ∃ RL : Array Value, RL = setsC (List.replicate n 0#256) := ⟨_, rfl⟩
 rw [← hRL] at HF0 hmk
 obtain ⟨F0, hF0⟩ : ∃ F0, F0 = List.replicate n 0#256 := ⟨_, rfl⟩
 rw [← hF0] at HF0 HSd
 clear HT0 hBo hRL hF0
 go_wp2
 rw [← HBo.out]
 go_loopg [6] (sizeZ F0 + 1) (fun gg vc wr => ∃ (c : Bool) (F : List BS), vc = .bool c ∧ Hid (FB g w Bs Bn Bo S M F wr ∧ SoundF g F ∧ F.length = g.sorts.length ∧ (c = false → FirstP g F) ∧ (c = true → sizeZ F + 1 ≤ gg)))
 case atStart => exact ⟨true, F0, rfl, Lib.hid ⟨HF0.out, HSd.out.1, HSd.out.2, (fun h => by cases h), fun _ => Nat.le_refl _⟩⟩
 case round =>
  clear HF0 HSd hmk c0 c1 c2 c3 c4 lc
  obtain ⟨c, F, rfl, K⟩ := hrel
  cases c with
  | false =>
   have HP := Lib.hid (K.out.2.2.2.1 rfl)
   have HK := Lib.hid K.out.1
   have HLn := Lib.hid K.out.2.2.1
   clear K
   go_wp2
   go_ret
   exact ⟨F, Bo, HP.out, by rw [HLn.out, ← N1.out]; rfl, Nat.le_of_lt HK.out.low, HK.out.o, HK.out.b⟩
  | true =>
   have HGg : Hid (sizeZ F + 1 ≤ gk) := Lib.hid (K.out.2.2.2.2 rfl)
   have HI0 : Hid (FB g w Bs Bn Bo S M F wr ∧ RoundF g M (liveS S) F F 0 false) := Lib.hid ⟨K.out.1, K.out.2.2.1, K.out.2.1, (fun _ => ⟨rfl, fun i x hi => by omega⟩), fun h => by cases h⟩
   clear K
   go_wp2
   obtain ⟨wo, rfl⟩ : ∃ wo : World, wo = wr := ⟨_, rfl⟩
   go_loopw [6, 7] (fun vc vj wr => ∃ (c : Bool) (j : Nat) (F' : List BS), vc = .bool c ∧ vj = .int .i64 j ∧ j ≤ np ∧ Hid (FB g w Bs Bn Bo S M F' wr ∧ RoundF g M (liveS S) F F' j c)) (fun _ vj _ => np - (intOf vj).toNat)
   case atStart => exact ⟨false, 0, F, rfl, rfl, Nat.zero_le _, HI0⟩
   case round =>
    clear HI0
    obtain ⟨c, j, F', rfl, rfl, hj, K⟩ := hrel
    have hb0 : Blk wr w.heap.size 27 #[.slice g.sa n g.sc, .slice g.pa np g.pc, .int .i64 g.start, .slice g.fa g.forbid.length g.fc, .slice g.wa g.follow.length g.wc] := by rw [← HGr.out]; exact K.out.1.b0
    obtain ⟨c0, c1, c2, c3, c4⟩ := cells5s hb0
    have l0 := hb0.lt
    by_cases hlj : j < np
    ·obtain ⟨x, hx⟩ : ∃ x, g.prods[j]? = some x := ⟨_, List.getElem?_eq_getElem (by rw [← N2.out]; exact hlj)⟩
     obtain ⟨b1, o1, e1, hb1, hc1, hi1⟩ := HA.out.2.2.prods j x hx
     obtain ⟨x0, x1, x2, x3, x4, x5, x6⟩ := Prod_at (hc1.below K.out.1.b hb1)
     have hb1' := Nat.lt_of_lt_of_le hb1 K.out.1.b.size
     have y2 : (j : Int) < (np : Int) := by omega
     have y0 : (0 : Int) ≤ (j : Int) := by omega
     have hxm := List.mem_of_getElem? hx
     obtain ⟨k, hk, hkn⟩ := HA.out.1.left x hxm
     rw [← N1.out] at hkn
     have HXI := Lib.hid (And.intro hi1 (And.intro (HA.out.1.right x hxm) (And.intro (HA.out.1.kind x hxm) (HA.out.1.sym x hxm))))
     have HXb := Lib.hid (Blk.new wr 65 (prodC x))
     have HK1 := Lib.hid (K.out.1.below (V := wr.alloc (.cells (prodC x) 65)) ((Below.refl _ _).alloc (Nat.le_refl _) _))
     have HTr := Lib.hid (fun W => rtree_any x W)
     have HSum := Lib.hid (fun W (hW : FB g w Bs Bn Bo S M F' W) => rsum_any x S (some ⟨Bs, 0, none⟩) S.length W hW.s.irow (by rw [HT.out.1.sp.1]; exact HA.out.1.sorts2) HT.out.1.sp.sound.lo (hi1.below hW.b) (HA.out.1.right x hxm) (fun s hs hk => by rw [HT.out.1.sp.1]; exact HA.out.1.sym x hxm s hs hk))
     have hSl : S.length = n := by rw [HT.out.1.sp.1, ← N1.out]
     rw [hSl] at HSum
     have HLive := Lib.hid (mem_live HA.out.1 HA.out.2.1 HT.out.1.sp hxm)
     have HSkip := Lib.hid (fun h => K.out.2.quiet (c := c) hx h)
     have HQuiet := Lib.hid (fun h : addF F' M x.right (F'.getD k 0#256) = F'.getD k 0#256 => K.out.2.quiet (c := c) hx (fun _ => quiet_add (g := g) hk h))
     have HMore := Lib.hid (fun (hl : x ∈ livL g (liveS S)) (h : addF F' M x.right (F'.getD k 0#256) ≠ F'.getD k 0#256) => K.out.2.more (c := c) HA.out.1 HA.out.2.1 HT.out.1.np HL.out hl hk h)
     have HLn := Lib.hid (show F'.length = n by rw [K.out.2.len, ← N1.out])
     obtain ⟨u0, hu0⟩ : ∃ u0, u0 = F'.getD k 0#256 := ⟨_, rfl⟩
     have HGet : Hid (F'[k]? = some u0) := Lib.hid (by
      rw [hu0, List.getD_eq_getElem?_getD, List.getElem?_eq_getElem (by rw [HLn.out]; exact hkn)]; rfl)
     rw [← hu0] at HQuiet HMore
     obtain ⟨q, hq⟩ : ∃ q, q = addF F' M x.right u0 := ⟨_, rfl⟩
     have HQ0 := Lib.hid hq
     rw [← hq] at HQuiet HMore
     obtain ⟨t, ht⟩ : ∃ t, t = sumA S x.right 0 := ⟨_, rfl⟩
     rw [← ht] at HSum HLive
     have hpd : wr.heap.size ≠ Bo := by have := K.out.1.o.lt; omega
     rw [e1] at c1
     clear K hx hi1 hc1 hxm e1 hb0 hSl hu0 hq ht
     obtain ⟨xf, xra, xrc, xr, xco, xro, xpr, xav, xfr⟩ := x
     unfold prodV at HSum HTr
     unfold prodC at HSum HXb HK1 HTr
     dsimp only at *
     subst hk
     obtain ⟨xn, hxn⟩ : ∃ xn, xn = xr.length := ⟨_, rfl⟩
     have HXn := Lib.hid hxn
     rw [← hxn] at HXb HK1 HTr HSum x1
     have hx30 : xn ≤ 30 := by rw [hxn]; exact HXI.out.2.1
     obtain ⟨Bp, hBp⟩ : ∃ Bp, Bp = wr.heap.size := ⟨_, rfl⟩
     have HBp := Lib.hid hBp
     rw [← hBp] at HXb hpd
     clear hxn hBp
     go_wp2_with fail
     rw [← HBp.out]
     with_reducible refine (HTr.out _).mono ?_
     rintro e w3 ⟨rfl, hB3⟩
     have HK3 := Lib.hid (HK1.out.below hB3)
     have HX3 := Lib.hid (HXb.out.below hB3 HXb.out.lt)
     obtain ⟨d0, d1, d2, d3, d4, d5, d6⟩ := cells7g HX3.out
     have dl := HX3.out.lt
     clear hB3 HTr HXb HK1 x0 x1 x2 x3 x4 x5 x6 c0 c1 c2 c3 c4 l0 hb1 hb1' HBp
     cases hr : (xro == 11) with
     | true =>
      have HZ : Hid (FB g w Bs Bn Bo S M F' w3 ∧ RoundF g M (liveS S) F F' (j + 1) c) := Lib.hid ⟨HK3.out, HSkip.out (fun h => absurd (by simpa using hr) (HLive.out.1 h).1)⟩
      clear HK3 HX3 HSkip HQuiet HMore HSum HLive hr
      go_wp2
      go_roundw
      case rel => exact ⟨c, j + 1, F', rfl, by go_num, by omega, HZ⟩
      case measure => simp [intOf]; omega
     | false =>
      have Hr : Hid (¬ xro = 11) := Lib.hid (by simpa using hr)
      have HSum3 := Lib.hid (HSum.out w3 HK3.out)
      clear HSum hr
      go_wp2_with fail
      with_reducible refine HSum3.out.mono ?_
      rintro e w4 ⟨rfl, hB4⟩
      have HF4 := Lib.hid (HK3.out.below hB4)
      have HP4 := Lib.hid (HX3.out.below hB4 HX3.out.lt)
      obtain ⟨d0, d1, d2, d3, d4, d5, d6⟩ := cells7g HP4.out
      have dl := HP4.out.lt
      clear hB4 HSum3 HK3 HX3
      by_cases ht : t < 0
      ·have e1 : decide (t < 0) = true := by simpa using ht
       have HZ : Hid (FB g w Bs Bn Bo S M F' w4 ∧ RoundF g M (liveS S) F F' (j + 1) c) := Lib.hid ⟨HF4.out, HSkip.out (fun h => absurd (HLive.out.1 h).2 (by omega))⟩
       clear HF4 HP4 HSkip HQuiet HMore HLive ht
       go_wp2
       go_roundw
       case rel => exact ⟨c, j + 1, F', rfl, by go_num, by omega, HZ⟩
       case measure => simp [intOf]; omega
      ·have e1 : decide (t < 0) = false := by simpa using ht
       have HMore := Lib.hid (HMore.out (HLive.out.2 ⟨Hr.out, by omega⟩))
       obtain ⟨o0, o1, o2, o3⟩ := set_cells HF4.out.o HGet.out
       have ol := HF4.out.o.lt
       have kz1 : (k : Int) < (n : Int) := by omega
       have kz0 : (0 : Int) ≤ (k : Int) := by omega
       have hpl4 : Bp < w4.heap.size := HP4.out.lt
       have hol4 : Bo < w4.heap.size := ol
       have HFar : Hid (FarF F' M xr q 0 u0 true ∧ Blk (w4.alloc (.cells #[.int .u64 (wdI u0 0), .int .u64 (wdI u0 1), .int .u64 (wdI u0 2), .int .u64 (wdI u0 3)] 47)) w4.heap.size 47 (cset u0) ∧ Below w4.heap.size w4 (w4.alloc (.cells #[.int .u64 (wdI u0 0), .int .u64 (wdI u0 1), .int .u64 (wdI u0 2), .int .u64 (wdI u0 3)] 47))) := Lib.hid ⟨by rw [HQ0.out]; exact FarF.start F' M xr u0, Blk.new w4 47 (cset u0), (Below.refl _ _).alloc (Nat.le_refl _) _⟩
       obtain ⟨Bq, hBq⟩ : ∃ Bq, Bq = w4.heap.size := ⟨_, rfl⟩
       have HBq := Lib.hid hBq
       have hqo : Bo < Bq := by omega
       have hqp : Bp < Bq := by omega
       rw [← hBq] at HFar
       clear hBq ht HSkip HLive
       go_wp2
       rw [← HBq.out]
       obtain ⟨wo2, rfl⟩ : ∃ wo2 : World, wo2 = wr := ⟨_, rfl⟩
       go_loopw [10, 11] (fun va vi wr => ∃ (a : Bool) (i : Nat) (u : BS), va = .bool a ∧ vi = .int .i64 i ∧ i ≤ xn ∧ Hid (FarF F' M xr q i u a ∧ Blk wr Bq 47 (cset u) ∧ Below Bq w4 wr)) (fun _ vi _ => xn - (intOf vi).toNat)
       case atStart => exact ⟨true, 0, u0, rfl, rfl, Nat.zero_le _, HFar⟩
       case round =>
        clear HFar d0 d1 d2 d3 d4 d5 d6 dl o0 o1 o2 o3 ol kz1 kz0
        obtain ⟨a, i, u, rfl, rfl, hi, K3⟩ := hrel
        have hw4 : w4.heap.size ≤ Bq := by rw [HBq.out]; exact Nat.le_refl _
        have HFr := Lib.hid (HF4.out.below (K3.out.2.2.mono hw4))
        have HPr := Lib.hid (HP4.out.below K3.out.2.2 hqp)
        have HQr := Lib.hid K3.out.2.1
        by_cases hgo : a = true ∧ i < xn
        ·obtain ⟨rfl, hlt⟩ := hgo
         obtain ⟨s, hs⟩ : ∃ s, xr[i]? = some s := ⟨_, List.getElem?_eq_getElem (by rw [← HXn.out]; exact hlt)⟩
         obtain ⟨b2, o2, e2, hb2, hc2, _⟩ := HXI.out.1 i s hs
         obtain ⟨s0, s1, s2, s3, s4, s5⟩ := Sym_at (hc2.below HFr.out.b hb2)
         have hb2' := Nat.lt_of_lt_of_le hb2 HFr.out.b.size
         obtain ⟨p0, p1, p2, p3, p4, p5, p6⟩ := cells7g HPr.out
         have pl := HPr.out.lt
         have v1 : (i : Int) < (xn : Int) := by omega
         have v0 : (0 : Int) ≤ (i : Int) := by omega
         have hsm := List.mem_of_getElem? hs
         have HStep := Lib.hid (K3.out.1.step hs)
         have HSk := Lib.hid (And.intro (HXI.out.2.2.1 s hsm) (HXI.out.2.2.2 s hsm))
         dsimp only at e2
         rw [e2] at p1
         clear hs hc2 hsm e2
         obtain ⟨sk, ss, so⟩ := s
         dsimp only at *
         have hBx : Below wr.heap.size wr (wr.alloc (.cells #[.int .i64 sk, .int .u64 (wdI ss 0), .int .u64 (wdI ss 1), .int .u64 (wdI ss 2), .int .u64 (wdI ss 3), .int .i64 so] 60)) := (Below.refl _ _).alloc (Nat.le_refl _) _
         have HPx := Lib.hid (HPr.out.below hBx pl)
         have HQx := Lib.hid (HQr.out.below hBx HQr.out.lt)
         have HLx := Lib.hid (K3.out.2.2.trans (hBx.mono (Nat.le_of_lt HQr.out.lt)))
         have HSb := Lib.hid (Blk.new wr 60 #[.int .i64 sk, .int .u64 (wdI ss 0), .int .u64 (wdI ss 1), .int .u64 (wdI ss 2), .int .u64 (wdI ss 3), .int .i64 so])
         have hqx : wr.heap.size ≠ Bq := by have := HQr.out.lt; omega
         obtain ⟨Bx, hBx'⟩ : ∃ Bx, Bx = wr.heap.size := ⟨_, rfl⟩
         have HBxe := Lib.hid hBx'
         obtain ⟨W1, hW1⟩ : ∃ W1, W1 = wr.alloc (.cells #[.int .i64 sk, .int .u64 (wdI ss 0), .int .u64 (wdI ss 1), .int .u64 (wdI ss 2), .int .u64 (wdI ss 3), .int .i64 so] 60) := ⟨_, rfl⟩
         have HW1 := Lib.hid hW1
         rw [← hBx'] at hqx
         rw [← hBx', ← hW1] at HSb
         rw [← hW1] at HPx HQx HLx
         clear K3 hBx hBx' hW1 HPr HQr HFr
         go_upto_region 17 with fail
         rw [← HBxe.out, ← HW1.out]
         obtain ⟨t0, t1, t2, t3, t4, t5⟩ := cells6s HSb.out
         have tl := HSb.out.lt
         have hqc := HQx.out
         unfold cset at hqc
         obtain ⟨e0, e1', e2, e3⟩ := cells4q hqc
         have el := hqc.lt
         clear p0 p1 p2 p3 p4 p5 p6 pl s0 s1 s2 s3 s4 s5 hb2 hb2' hqc HW1 HBxe
         cases k1 : (sk == 1) with
         | false =>
          have hk0 : sk = 0 := by
           rcases HSk.out.1 with h | h
           ·exact h
           ·rw [h] at k1; cases k1
          have HFE : Hid (FarF F' M xr q (i + 1) (u ||| ss) false) := Lib.hid (by
           have h := HStep.out
           unfold symF symE at h
           rw [if_pos hk0, if_pos hk0] at h
           exact h)
          have HBoth := Lib.hid (fun W => rboth_join u ss W)
          unfold vset at HBoth
          clear HStep HSk hk0
          go_wp2_with fail
          with_reducible refine (HBoth.out _).mono ?_
          rintro e w7 ⟨rfl, hB7⟩
          have hQ7 := HQx.out.below hB7 el
          have hL7 := HLx.out.trans (hB7.mono (Nat.le_of_lt el))
          have HZ : Hid (FarF F' M xr q (i + 1) (u ||| ss) false ∧ Blk (put4 w7 Bq 0 (u ||| ss)) Bq 47 (cset (u ||| ss)) ∧ Below Bq w4 (put4 w7 Bq 0 (u ||| ss))) := Lib.hid ⟨HFE.out, put4_one hQ7 _, put4_low hL7 (Nat.le_refl _)⟩
          have hqc := hQ7
          unfold cset at hqc
          obtain ⟨g0, g1, g2, g3⟩ := cells4q hqc
          have gl := hqc.lt
          have gf := hqc.frozen
          clear hB7 hQ7 hL7 hqc HBoth HFE HQx HPx HLx HSb t0 t1 t2 t3 t4 t5 tl e0 e1' e2 e3 el k1
          go_wp2
          go_roundw
          case rel => exact ⟨false, i + 1, u ||| ss, rfl, by go_num, by omega, HZ⟩
          case measure => simp [intOf]; omega
         | true =>
          have hk1 : sk = 1 := by simpa using k1
          obtain ⟨kk, hkk, hkn2⟩ := HSk.out.2 hk1
          rw [← N1.out] at hkn2
          subst hkk
          obtain ⟨m, hm⟩ : ∃ m, F'[kk]? = some m := ⟨_, List.getElem?_eq_getElem (by rw [HLn.out]; exact hkn2)⟩
          have HGm := Lib.hid hm
          obtain ⟨ev, hev⟩ : ∃ ev, ev = lv M (kk : Int) := ⟨_, rfl⟩
          have HEv := Lib.hid hev
          have HFE : Hid (FarF F' M xr q (i + 1) (u ||| m) ev) := Lib.hid (by
           have h := HStep.out
           unfold symF symE at h
           rw [if_neg (by dsimp only; omega), if_neg (by dsimp only; omega), ← hev, Int.toNat_natCast, List.getD_eq_getElem?_getD, hm] at h
           exact h)
          have HBoth := Lib.hid (fun W => rboth_join u m W)
          unfold vset at HBoth
          have ky1 : (kk : Int) < (n : Int) := by omega
          have ky0 : (0 : Int) ≤ (kk : Int) := by omega
          have hkM : kk < M.length := by rw [HT.out.1.np.1, ← N1.out]; exact hkn2
          have HFx := Lib.hid (HF4.out.below (HLx.out.mono hw4))
          clear HStep HSk hm hev hk1
          go_wp2
          refine wp_region_still_tail 6 (by kernel_rfl) (by kernel_rfl) ?_
          show wpStill _ _ (World.drew W1) _ _ _
          obtain ⟨V, hV⟩ : ∃ V, V = World.drew W1 := ⟨_, rfl⟩
          have HV := Lib.hid hV
          rw [← hV]
          have HFV : Hid (FB g w Bs Bn Bo S M F' V) := Lib.hid (by rw [hV]; exact HFx.out.below (Below.refl _ _).drew)
          have HQV : Hid (Blk V Bq 47 (cset u)) := Lib.hid (by rw [hV]; exact HQx.out.drew)
          have HSV : Hid (Blk V Bx 60 #[.int .i64 sk, .int .u64 (wdI ss 0), .int .u64 (wdI ss 1), .int .u64 (wdI ss 2), .int .u64 (wdI ss 3), .int .i64 (kk : Int)]) := Lib.hid (by rw [hV]; exact HSb.out.drew)
          have HLV : Hid (Below Bq w4 V) := Lib.hid (by rw [hV]; exact HLx.out.drew)
          clear hV t0 t1 t2 t3 t4 t5 tl e0 e1' e2 e3 el HFx HQx HPx HLx HSb
          obtain ⟨t0, t1, t2, t3, t4, t5⟩ := cells6s HSV.out
          have tl := HSV.out.lt
          have hqc := HQV.out
          unfold cset at hqc
          obtain ⟨e0, e1', e2, e3⟩ := cells4q hqc
          have el := hqc.lt
          obtain ⟨o0, o1, o2, o3⟩ := set_cells HFV.out.o HGm.out
          have ol := HFV.out.o.lt
          clear hqc
          simp only [List.take_succ_cons, List.take_zero, List.drop_succ_cons, List.drop_zero]
          repeat still_step
          refine wpStill_nil ?_
          show wpList _ _ _ _ _ (World.drew W1)
          rw [← HV.out]
          clear HV t0 t1 t2 t3 t4 t5 tl e0 e1' e2 e3 o0 o1 o2 o3 ol
          go_wp2_with fail
          with_reducible refine (HBoth.out _).mono ?_
          rintro e w7 ⟨rfl, hB7⟩
          have hQ7 := HQV.out.below hB7 el
          have hL7 := HLV.out.trans (hB7.mono (Nat.le_of_lt el))
          have hS7 := HSV.out.below hB7 HSV.out.lt
          obtain ⟨W8, hW8⟩ : ∃ W8, W8 = put4 w7 Bq 0 (u ||| m) := ⟨_, rfl⟩
          have HW8 := Lib.hid hW8
          have hQ8 : Blk W8 Bq 47 (cset (u ||| m)) := by rw [hW8]; exact put4_one hQ7 _
          have hL8 : Below Bq w4 W8 := by rw [hW8]; exact put4_low hL7 (Nat.le_refl _)
          have hS8 : Blk W8 Bx 60 #[.int .i64 sk, .int .u64 (wdI ss 0), .int .u64 (wdI ss 1), .int .u64 (wdI ss 2), .int .u64 (wdI ss 3), .int .i64 (kk : Int)] := by rw [hW8]; exact put4_other hS7 hqx
          have hF8 := HF4.out.below (hL8.mono hw4)
          have hN8 := hF8.nl.cell kk
          have hn8 := hF8.nl.lt
          rw [bools_at M kk hkM, ← HEv.out] at hN8
          have HZ : Hid (FarF F' M xr q (i + 1) (u ||| m) ev ∧ Blk W8 Bq 47 (cset (u ||| m)) ∧ Below Bq w4 W8) := Lib.hid ⟨HFE.out, hQ8, hL8⟩
          have hqc := hQ7
          unfold cset at hqc
          obtain ⟨g0, g1, g2, g3⟩ := cells4q hqc
          have gl := hqc.lt
          have gf := hqc.frozen
          have HS8 := Lib.hid hS8
          have HN8 := Lib.hid (And.intro hN8 hn8)
          clear hB7 hQ7 hL7 hS7 hqc hQ8 hL8 hS8 hF8 hN8 hn8 HBoth HFE HQV HFV HLV HSV hW8 el k1
          unfold put4 at HW8
          go_upto_region 19 with fail
          rw [← HW8.out]
          clear g0 g1 g2 g3 gl gf HW8
          obtain ⟨t0, t1, t2, t3, t4, t5⟩ := cells6s HS8.out
          have tl := HS8.out.lt
          obtain ⟨hN8, hn8⟩ := HN8.out
          go_wp2
          go_roundw
          case rel => exact ⟨ev, i + 1, u ||| m, rfl, by go_num, by omega, HZ⟩
          case measure => simp [intOf]; omega
        ·have HUq : Hid (u = q) := Lib.hid (K3.out.1.done (by
          cases a with
          | false => exact .inl rfl
          | true => exact .inr (by rw [← HXn.out]; exact Nat.le_of_not_lt fun h => hgo ⟨rfl, h⟩)))
         have HGo := Lib.hid hgo
         clear hgo
         by_cases hlt : i < xn
         ·have ha : a = false := by
           cases a with
           | false => rfl
           | true => exact absurd ⟨rfl, hlt⟩ HGo.out
          subst ha
          have HK9 := HFr
          have HP9 := HPr
          have hq9 := K3.out.2.1
          unfold cset at hq9
          obtain ⟨e0, e1, e2, e3⟩ := cells4q hq9
          have el := hq9.lt
          obtain ⟨p0, p1, p2, p3, p4, p5, p6⟩ := cells7g HP9.out
          have pl := HP9.out.lt
          obtain ⟨o0, o1, o2, o3⟩ := set_cells HK9.out.o HGet.out
          have ol := HK9.out.o.lt
          have of0 := HK9.out.o.frozen (k * 4)
          have of1 := HK9.out.o.frozen (k * 4 + 1)
          have of2 := HK9.out.o.frozen (k * 4 + 2)
          have of3 := HK9.out.o.frozen (k * 4 + 3)
          have kz1 : (k : Int) < (n : Int) := by omega
          have kz0 : (0 : Int) ≤ (k : Int) := by omega
          have HE := eq_sets u u0
          have HEnd := Lib.hid (And.intro HQuiet.out HMore.out)
          rw [← HUq.out] at HEnd
          clear K3 HF4 HP4 HQuiet HMore HP9 hq9 HFr HPr HQr HGo
          by_cases hsame : u = u0
          ·have e9 : (u == u0) = true := by simpa using hsame
           have HZ := Lib.hid (HEnd.out.1 hsame)
           clear HEnd hsame
           go_wp2
           go_region
           all_goals (
            go_wp2
            go_roundw
            case rel => exact ⟨c, j + 1, F', rfl, by go_num, by omega, Lib.hid ⟨HK9.out.below (Below.refl _ _).drew, HZ.out⟩⟩
            case measure => simp [intOf]; omega)
          ·have e9 : (u == u0) = false := by simpa using hsame
           have HZ := Lib.hid (HEnd.out.2 hsame)
           clear HEnd hsame
           go_wp2
           go_region
           all_goals (
            go_wp2
            go_roundw
            case rel => exact ⟨true, j + 1, _, rfl, by go_num, by omega, Lib.hid ⟨(HK9.out.below (Below.refl _ _).drew).put (by rw [HLn.out]; exact hkn) u, HZ.out⟩⟩
            case measure => simp [intOf]; omega)
         ·obtain rfl : i = xn := by omega
          have HK9 := HFr
          have HP9 := HPr
          have hq9 := K3.out.2.1
          unfold cset at hq9
          obtain ⟨e0, e1, e2, e3⟩ := cells4q hq9
          have el := hq9.lt
          obtain ⟨p0, p1, p2, p3, p4, p5, p6⟩ := cells7g HP9.out
          have pl := HP9.out.lt
          obtain ⟨o0, o1, o2, o3⟩ := set_cells HK9.out.o HGet.out
          have ol := HK9.out.o.lt
          have of0 := HK9.out.o.frozen (k * 4)
          have of1 := HK9.out.o.frozen (k * 4 + 1)
          have of2 := HK9.out.o.frozen (k * 4 + 2)
          have of3 := HK9.out.o.frozen (k * 4 + 3)
          have kz1 : (k : Int) < (n : Int) := by omega
          have kz0 : (0 : Int) ≤ (k : Int) := by omega
          have HE := eq_sets u u0
          have HEnd := Lib.hid (And.intro HQuiet.out HMore.out)
          rw [← HUq.out] at HEnd
          clear K3 HF4 HP4 HQuiet HMore HP9 hq9 HFr HPr HQr HGo
          by_cases hsame : u = u0
          ·have e9 : (u == u0) = true := by simpa using hsame
           have HZ := Lib.hid (HEnd.out.1 hsame)
           clear HEnd hsame
           go_wp2
           go_region
           all_goals (
            go_wp2
            go_roundw
            case rel => exact ⟨c, j + 1, F', rfl, by go_num, by omega, Lib.hid ⟨HK9.out.below (Below.refl _ _).drew, HZ.out⟩⟩
            case measure => simp [intOf]; omega)
          ·have e9 : (u == u0) = false := by simpa using hsame
           have HZ := Lib.hid (HEnd.out.2 hsame)
           clear HEnd hsame
           go_wp2
           go_region
           all_goals (
            go_wp2
            go_roundw
            case rel => exact ⟨true, j + 1, _, rfl, by go_num, by omega, Lib.hid ⟨(HK9.out.below (Below.refl _ _).drew).put (by rw [HLn.out]; exact hkn) u, HZ.out⟩⟩
            case measure => simp [intOf]; omega)
    ·obtain rfl : np = j := by omega
     have HZ : Hid (FB g w Bs Bn Bo S M F' wr ∧ SoundF g F' ∧ F'.length = g.sorts.length ∧ (c = false → FirstP g F') ∧ (c = true → sizeZ F' + 1 ≤ sizeZ F)) := Lib.hid ⟨K.out.1, K.out.2.sound, K.out.2.len, (fun hc => by subst hc; exact K.out.2.done HA.out.1 HA.out.2.1 HT.out.1.np HL.out (by rw [N2.out]; exact Nat.le_refl _)), fun hc => K.out.2.yes hc⟩
     clear K
     go_wp2
     go_roundg (sizeZ F)
     case rel => exact ⟨c, F', rfl, HZ⟩
     case measure => exact HGg.out
end Go.Proofs.YtodnlcbnbkkanaaGreatDoor
end
section
namespace Go.Proofs.YtodnlcbnbkkanaaGreatDoor
open Go Go.RowKit

structure LB (g : GramM) (w : World) (Bs Bn Bf Bi Bo Be : Nat) (S : List Int) (M : List Bool) (F : List BS) (I : List Bool) (O : List BS) (E : List Bool) (W : World) : Prop where
 b0 : Blk W w.heap.size 27 (gramC g)
 s : Blk W Bs 3 (ints S)
 nl : Blk W Bn 4 (bools M)
 f : Blk W Bf 47 (setsC F)
 i : Blk W Bi 4 (bools I)
 o : Blk W Bo 47 (setsC O)
 e : Blk W Be 4 (bools E)
 b : Below w.heap.size w W
 low : w.heap.size < Bi ∧ Bn < Bi ∧ Bf < Bi ∧ Bi < Bo ∧ Bi < Be
section
variable {g : GramM} {w W V : World} {Bs Bn Bf Bi Bo Be : Nat} {S : List Int} {M : List Bool} {F : List BS} {I : List Bool} {O : List BS} {E : List Bool}
theorem LB.below (h : LB g w Bs Bn Bf Bi Bo Be S M F I O E W) (hB : Below W.heap.size W V) : LB g w Bs Bn Bf Bi Bo Be S M F I O E V :=
 ⟨h.b0.below hB h.b0.lt, h.s.below hB h.s.lt, h.nl.below hB h.nl.lt, h.f.below hB h.f.lt, h.i.below hB h.i.lt, h.o.below hB h.o.lt, h.e.below hB h.e.lt, h.b.trans (hB.mono h.b.size), h.low⟩
theorem LB.setI (h : LB g w Bs Bn Bf Bi Bo Be S M F I O E W) (k : Nat) (v : Bool) : LB g w Bs Bn Bf Bi Bo Be S M F (I.set k v) O E (W.setCell ⟨Bi, k, none⟩ (.bool v)) := by
 obtain ⟨l1, l2, l3, l4, l5⟩ := h.low
 refine ⟨h.b0.other (blk_ne h.b0 h.i (by decide)) _, h.s.other (blk_ne h.s h.i (by decide)) _, h.nl.other (by show Bn ≠ Bi; omega) _, h.f.other (by show Bf ≠ Bi; omega) _, ?_, h.o.other (by show Bo ≠ Bi; omega) _, h.e.other (by show Be ≠ Bi; omega) _, h.b.setCell (p := ⟨Bi, k, none⟩) (by show w.heap.size ≤ Bi; omega) _, h.low⟩
 rw [← bools_setw]
 exact h.i.set k _
theorem LB.setE (h : LB g w Bs Bn Bf Bi Bo Be S M F I O E W) (k : Nat) (v : Bool) : LB g w Bs Bn Bf Bi Bo Be S M F I O (E.set k v) (W.setCell ⟨Be, k, none⟩ (.bool v)) := by
 obtain ⟨l1, l2, l3, l4, l5⟩ := h.low
 refine ⟨h.b0.other (blk_ne h.b0 h.e (by decide)) _, h.s.other (blk_ne h.s h.e (by decide)) _, h.nl.other (by show Bn ≠ Be; omega) _, h.f.other (by show Bf ≠ Be; omega) _, h.i.other (by show Bi ≠ Be; omega) _, h.o.other (blk_ne h.o h.e (by decide)) _, ?_, h.b.setCell (p := ⟨Be, k, none⟩) (by show w.heap.size ≤ Be; omega) _, h.low⟩
 rw [← bools_setw]
 exact h.e.set k _
theorem LB.putO (h : LB g w Bs Bn Bf Bi Bo Be S M F I O E W) {k : Nat} (hk : k < O.length) (t : BS) : LB g w Bs Bn Bf Bi Bo Be S M F I (O.set k t) E (put4 W Bo (k * 4) t) := by
 obtain ⟨l1, l2, l3, l4, l5⟩ := h.low
 exact ⟨put4_other h.b0 (blk_ne h.b0 h.o (by decide)), put4_other h.s (blk_ne h.s h.o (by decide)), put4_other h.nl (blk_ne h.nl h.o (by decide)), put4_other h.f (by show Bf ≠ Bo; omega), put4_other h.i (blk_ne h.i h.o (by decide)), put4_blk h.o hk, put4_other h.e (blk_ne h.e h.o (by decide)), put4_low h.b (by omega), h.low⟩
end
def LBB (g : GramM) (w : World) (Bs Bn Bf Bi Bo Be : Nat) (S : List Int) (M : List Bool) (F : List BS) (B : List BackM) (W : World) : Prop := LB g w Bs Bn Bf Bi Bo Be S M F (B.map (·.there)) (B.map (·.bytes)) (B.map (·.fin)) W
section
variable {g : GramM} {w W V : World} {Bs Bn Bf Bi Bo Be : Nat} {S : List Int} {M : List Bool} {F : List BS} {B : List BackM}
theorem LBB.below (h : LBB g w Bs Bn Bf Bi Bo Be S M F B W) (hB : Below W.heap.size W V) : LBB g w Bs Bn Bf Bi Bo Be S M F B V := LB.below h hB
theorem LBB.put (h : LBB g w Bs Bn Bf Bi Bo Be S M F B W) {k : Nat} (hk : k < B.length) (u : BS) (e : Bool) : LBB g w Bs Bn Bf Bi Bo Be S M F (B.set k ⟨true, u, e⟩) (((put4 W Bo (k * 4) u).setCell ⟨Be, k, none⟩ (.bool e)).setCell ⟨Bi, k, none⟩ (.bool true)) := by
 have h1 := ((LB.putO h (k := k) (by rw [List.length_map]; exact hk) u).setE k e).setI k true
 unfold LBB
 rw [List.map_set, List.map_set, List.map_set]
 exact h1
theorem LBB.at (h : LBB g w Bs Bn Bf Bi Bo Be S M F B W) {k : Nat} {b : BackM} (hk : B[k]? = some b) : W.cell? ⟨Bi, k, none⟩ = some (.bool b.there) ∧ W.cell? ⟨Be, k, none⟩ = some (.bool b.fin) := by
 have hl := (List.getElem?_eq_some_iff.1 hk).1
 have h1 := LB.i h
 have h2 := LB.e h
 constructor
 ·rw [h1.cell k, bools_at _ _ (by rw [List.length_map]; exact hl)]
  unfold lv
  rw [Int.toNat_natCast, List.getD_eq_getElem?_getD, List.getElem?_map, hk]
  rfl
 ·rw [h2.cell k, bools_at _ _ (by rw [List.length_map]; exact hl)]
  unfold lv
  rw [Int.toNat_natCast, List.getD_eq_getElem?_getD, List.getElem?_map, hk]
  rfl
theorem LBB.bytes (h : LBB g w Bs Bn Bf Bi Bo Be S M F B W) {k : Nat} {b : BackM} (hk : B[k]? = some b) : W.cell? ⟨Bo, k * 4, none⟩ = some (.int .u64 (wdI b.bytes 0)) ∧ W.cell? ⟨Bo, k * 4 + 1, none⟩ = some (.int .u64 (wdI b.bytes 1)) ∧ W.cell? ⟨Bo, k * 4 + 2, none⟩ = some (.int .u64 (wdI b.bytes 2)) ∧ W.cell? ⟨Bo, k * 4 + 3, none⟩ = some (.int .u64 (wdI b.bytes 3)) :=
 set_cells (LB.o h) (by rw [List.getElem?_map, hk]; rfl)
end
theorem soundB_first {g : GramM} (hm : MayB g) (hs : MaySet g) {S : List Int} (hS : ShortP g S) (n : Nat) (hn : n = g.sorts.length) (c : Bool) (hc : c = true ↔ 0 ≤ gi S g.start) : SoundB g ((List.replicate n noB).set g.start.toNat ⟨c, 0#256, c⟩) := by
 obtain ⟨st, h1, h2⟩ := hm.start
 have hp : PV g g.start.toNat ↔ c = true := by
  rw [hc, h1, Int.toNat_natCast, gi_short hS h2, pv_iff hs]
 cases c with
 | true => exact soundB_start hs n (hp.2 rfl) (by rw [h1, Int.toNat_natCast, hn]; exact h2)
 | false =>
  have e : (List.replicate n noB).set g.start.toNat ⟨false, 0#256, false⟩ = List.replicate n noB := by
   refine List.ext_getElem? fun j => ?_
   by_cases ej : g.start.toNat = j
   ·subst ej
    rw [List.getElem?_set_self (by rw [List.length_replicate, h1, Int.toNat_natCast, hn]; exact h2), List.getElem?_replicate, if_pos (by rw [h1, Int.toNat_natCast, hn]; exact h2)]
    rfl
   ·rw [List.getElem?_set_ne ej]
  rw [e]
  exact soundB_none hs n (fun h => by have := hp.1 h; cases this)
def RFollowPost (g : GramM) (w : World) (e : Ending) (w' : World) : Prop := ∃ (B : List BackM) (Bo Be : Nat), BackP g B ∧ e = .returned (.tuple #[.slice (some ⟨Bo, 0, none⟩) g.sorts.length g.sorts.length, .slice (some ⟨Be, 0, none⟩) g.sorts.length g.sorts.length]) ∧ w.heap.size ≤ Bo ∧ w.heap.size ≤ Be ∧ Blk w' Bo 47 (setsC (B.map (·.bytes))) ∧ Blk w' Be 4 (bools (B.map (·.fin))) ∧ Below w.heap.size w w'
structure ThreeC (g : GramM) (w : World) (Bs Bn Bf : Nat) (S : List Int) (M : List Bool) (F : List BS) (W : World) : Prop where
 b0 : Blk W w.heap.size 27 (gramC g)
 s : Blk W Bs 3 (ints S)
 nl : Blk W Bn 4 (bools M)
 f : Blk W Bf 47 (setsC F)
 b : Below w.heap.size w W
 sp : ShortP g S
 np : NullP g M
 fp : FirstP g F
theorem rfirst_weak (g : GramM) (hm : MayB g) (hs : MaySet g) (w : World) (hg : GIn w g) : Calls Tryz.prog 26 #[gramV g] w fun e w' => ∃ F B, FirstP g F ∧ e = .returned (.slice (some ⟨B, 0, none⟩) g.sorts.length g.sorts.length) ∧ w.heap.size ≤ B ∧ Blk w' B 47 (setsC F) ∧ Below w.heap.size w w' :=
 (rfirst_any g hm hs w hg).mono fun _ _ ⟨F, B, h1, h2, h3, h4, h5⟩ => ⟨F, B, h1, by rw [h2, h1.1], h3, h4, h5⟩
section
variable {g : GramM} {w W : World} {Bs Bn Bf Bi n : Nat} {S : List Int} {M : List Bool} {F : List BS}
theorem LB.make1 (h : ThreeC g w Bs Bn Bf S M F W) (hi : Blk W Bi 4 (bools (List.replicate n false))) (hl : w.heap.size < Bi ∧ Bn < Bi ∧ Bf < Bi) : LB g w Bs Bn Bf Bi W.heap.size (W.heap.size + 1) S M F (List.replicate n false) (List.replicate n 0#256) (List.replicate n false) ((W.alloc (.cells (setsC (List.replicate n 0#256)) 47)).alloc (.cells (bools (List.replicate n false)) 4)) := by
 have h2 := Blk.new (W.alloc (.cells (setsC (List.replicate n 0#256)) 47)) 4 (bools (List.replicate n false))
 rw [World.size_alloc] at h2
 have hlt := hi.lt
 exact ⟨(h.b0.alloc _).alloc _, (h.s.alloc _).alloc _, (h.nl.alloc _).alloc _, (h.f.alloc _).alloc _, (hi.alloc _).alloc _, (Blk.new W 47 _).alloc _, h2, (h.b.alloc h.b.size _).alloc (by rw [World.size_alloc]; have := h.b.size; omega) _, by omega⟩
theorem LB.make2 (h : ThreeC g w Bs Bn Bf S M F W) (hi : Blk W Bi 4 (bools (List.replicate n false))) (hl : w.heap.size < Bi ∧ Bn < Bi ∧ Bf < Bi) : LB g w Bs Bn Bf Bi (W.heap.size + 1) W.heap.size S M F (List.replicate n false) (List.replicate n 0#256) (List.replicate n false) ((W.alloc (.cells (bools (List.replicate n false)) 4)).alloc (.cells (setsC (List.replicate n 0#256)) 47)) := by
 have h2 := Blk.new (W.alloc (.cells (bools (List.replicate n false)) 4)) 47 (setsC (List.replicate n 0#256))
 rw [World.size_alloc] at h2
 have hlt := hi.lt
 exact ⟨(h.b0.alloc _).alloc _, (h.s.alloc _).alloc _, (h.nl.alloc _).alloc _, (h.f.alloc _).alloc _, (hi.alloc _).alloc _, h2, (Blk.new W 4 _).alloc _, (h.b.alloc h.b.size _).alloc (by rw [World.size_alloc]; have := h.b.size; omega) _, by omega⟩
theorem ThreeC.below {V : World} (h : ThreeC g w Bs Bn Bf S M F W) (hB : Below W.heap.size W V) : ThreeC g w Bs Bn Bf S M F V := ⟨h.b0.below hB h.b0.lt, h.s.below hB h.s.lt, h.nl.below hB h.nl.lt, h.f.below hB h.f.lt, h.b.trans (hB.mono h.b.size), h.sp, h.np, h.fp⟩
end
theorem LBB.start {g : GramM} {w W : World} {Bs Bn Bf Bi Bo Be n st : Nat} {S : List Int} {M : List Bool} {F : List BS} {c : Bool} (h : LB g w Bs Bn Bf Bi Bo Be S M F ((List.replicate n false).set st c) (List.replicate n 0#256) ((List.replicate n false).set st c) W) : LBB g w Bs Bn Bf Bi Bo Be S M F ((List.replicate n noB).set st ⟨c, 0#256, c⟩) W := by
 have e : (List.replicate n 0#256).set st 0#256 = List.replicate n 0#256 := by
  refine List.ext_getElem? fun j => ?_
  by_cases ej : st = j
  ·subst ej
   by_cases hl : st < n
   ·rw [List.getElem?_set_self (by simpa using hl), List.getElem?_replicate, if_pos hl]
   ·rw [List.getElem?_eq_none (by simp; omega), List.getElem?_eq_none (by simp; omega)]
  ·rw [List.getElem?_set_ne ej]
 unfold LBB
 rw [List.map_set, List.map_set, List.map_set, List.map_replicate, List.map_replicate, List.map_replicate]
 rw [← e] at h
 exact h
end Go.Proofs.YtodnlcbnbkkanaaGreatDoor
end
section
namespace Go.Proofs.YtodnlcbnbkkanaaGreatDoor
open Go Go.RowKit

set_option maxRecDepth 100000 in
set_option maxHeartbeats 16000000 in
theorem rfollow_loop4 {Q0 : Exit → Act → World → Prop} {K : Act → World → Prop} {x0 x1 x2 x3 x4 x7 x8 x9 x10 x11 x13 x14 x18 x19 x20 x21 x22 x23 x24 x25 x26 x27 x28 x29 x30 x31 x32 x33 x34 x35 x36 x37 x38 x39 x40 x41 x42 x43 x44 x45 x46 x47 x48 x49 x50 x51 x52 x53 x54 x55 x56 x57 x58 x59 x60 x61 x62 x63 x64 x65 x66 x67 x68 x69 x70 x71 x72 x73 x74 x75 x76 x77 x78 x79 x80 x81 x82 x83 x84 x85 x86 x87 x88 x89 x90 x91 x92 x93 x94 x95 x96 x97 x98 x99 x100 x101 x102 x103 x104 x105 x106 x107 x108 x109 x110 x111 x112 x113 x114 x115 x116 x117 x118 x119 x120 x121 x122 x123 x124 x125 x126 x127 x128 x129 x130 x131 x132 x133 x134 x135 x136 x137 x138 x139 x140 x141 x142 x143 x144 x145 x146 x147 x148 x149 x150 x151 x152 x153 x154 x155 x156 x157 x158 x159 x160 x161 x162 x163 x164 x165 x166 x167 x168 x169 x170 x171 x172 x173 x174 x175 x176 x177 x178 x179 x180 x181 x182 x183 x184 x185 x186 x187 x188 x189 x190 x191 x192 x193 x194 x195 x196 x197 x198 x199 x200 x201 : Value} {g : GramM} {w w3r W5 : World} {Bs Bn Bf Bi Bo Be Bp Bq n xn m k : Nat} {S : List Int} {M : List Bool} {F : List BS} {BB : List BackM} {xra : Option Addr} {xrc : Nat} {xr : List SymM} {xco : ByteArray} {xro : Int} {xpr xav : Bool} {xfr : Int} {q b1 : BS} {z : Bool}
  (N1 : Hid (n = g.sorts.length)) (hn1 : n ≤ 1000) (HFp : Hid (FirstP g F)) (HNp : Hid (NullP g M)) (HXn : Hid (xn = xr.length)) (hx30 : xn ≤ 30)
  (HXI : Hid (ProdIn w ⟨(k : Int), xra, xrc, xr, xco, xro, xpr, xav, xfr⟩ ∧ xr.length ≤ 30 ∧ (∀ s, s ∈ xr → s.kind = 0 ∨ s.kind = 1) ∧ ∀ s, s ∈ xr → s.kind = 1 → ∃ k : Nat, s.sort = k ∧ k < g.sorts.length))
  (HF3 : Hid (LBB g w Bs Bn Bf Bi Bo Be S M F BB w3r)) (HP3 : Hid (Blk w3r Bp 65 #[.int .i64 (k : Int), .slice xra xn xrc, .string xco, .int .i64 xro, .bool xpr, .bool xav, .int .i64 xfr])) (hw3 : w3r.heap.size ≤ Bq) (hqp : Bp < Bq) (hlm : m < xn)
  (HI4 : Hid (FarB F M xr q z (m + 1) b1 true ∧ Blk W5 Bq 47 (cset b1) ∧ Below Bq w3r W5))
  (HK : Hid (∀ (a' : Act) (w' : World), (∃ y17 y18 y112 y113 y114 y115 y116 y117 y118 y119 y120 y121 y122 y123 y124 y125 y126 y127 y128 y129 y130 y131 y132 y133 y134 y135 y136 y137 y138 y139 y140 y141 y142 y143 y144 y145 : Value, Hid (Blk w' Bq 47 (cset q) ∧ Below Bq w3r w') ∧ a' = ⟨#[x0, x1, x2, x3, x4, .slice (some ⟨Bn, 0, none⟩) n n, .slice (some ⟨Bf, 0, none⟩) n n, x7, x8, x9, x10, x11, .pointer (some ⟨Bp, 0, none⟩), x13, x14, .pointer (some ⟨Bq, 0, none⟩), .bool z, y17, y18, x19, x20, x21, x22, x23, x24, x25, x26, x27, x28, x29, x30, x31, x32, x33, x34, x35, x36, x37, x38, x39, x40, x41, x42, x43, x44, x45, x46, x47, x48, x49, x50, x51, x52, x53, x54, x55, x56, x57, x58, x59, x60, x61, x62, x63, x64, x65, x66, x67, x68, x69, x70, x71, x72, x73, x74, x75, x76, x77, x78, x79, x80, x81, x82, x83, x84, x85, x86, x87, x88, x89, x90, x91, x92, x93, x94, x95, x96, x97, x98, x99, x100, x101, x102, x103, x104, x105, x106, x107, x108, x109, x110, x111, y112, y113, y114, y115, y116, y117, y118, y119, y120, y121, y122, y123, y124, y125, y126, y127, y128, y129, y130, y131, y132, y133, y134, y135, y136, y137, y138, y139, y140, y141, y142, y143, y144, y145, x146, x147, x148, x149, x150, x151, x152, x153, x154, x155, x156, x157, x158, x159, x160, x161, x162, x163, x164, x165, x166, x167, x168, x169, x170, x171, x172, x173, x174, x175, x176, x177, x178, x179, x180, x181, x182, x183, x184, x185, x186, x187, x188, x189, x190, x191, x192, x193, x194, x195, x196, x197, x198, x199, x200, x201], []⟩) → K a' w')) :
  Code.wp Tryz.prog (Code.block 6 (((Code.region 21 #[{ dst := some 112, op := Op.move (Operand.tmp 17), type := 3, pos := "ref.go:121", after := #[], guard := none }, { dst := some 113, op := Op.fieldAddr 65 (Operand.tmp 12) 1, type := 0, pos := "ref.go:121", after := #[], guard := none }, { dst := some 114, op := Op.load 62 (Operand.tmp 113), type := 62, pos := "ref.go:121", after := #[{ on := 1, ground := Ground.data }], guard := none }, { dst := some 115, op := Op.call { callee := Callee.builtin Builtin.len, args := #[Operand.tmp 114], argTypes := #[62] }, type := 3, pos := "ref.go:121", after := #[{ on := 2, ground := Ground.data }], guard := none }, { dst := some 116, op := Op.binOp BinOp.lss 3 (Operand.tmp 112) (Operand.tmp 115) 3, type := 4, pos := "ref.go:121", after := #[{ on := 0, ground := Ground.data }, { on := 3, ground := Ground.data }], guard := none }, { dst := some 117, op := Op.move (Operand.tmp 116), type := 4, pos := "ref.go:121", after := #[{ on := 4, ground := Ground.data }], guard := none }, { dst := some 118, op := Op.move (Operand.tmp 16), type := 4, pos := "ref.go:121", after := #[{ on := 5, ground := Ground.guard }], guard := some (5, true) }, { dst := some 119, op := Op.pick (Operand.tmp 117) (Operand.tmp 118) (Operand.const (Value.bool false)), type := 4, pos := "ref.go:121", after := #[{ on := 5, ground := Ground.data }, { on := 6, ground := Ground.data }], guard := none }] false).seq (Code.cond (Operand.tmp 119) Code.skip (Code.exit 6))).seq ((Code.block 7 ((Code.region 23 #[{ dst := some 122, op := Op.fieldAddr 65 (Operand.tmp 12) 1, type := 0, pos := "ref.go:122", after := #[], guard := none }, { dst := some 123, op := Op.load 62 (Operand.tmp 122), type := 62, pos := "ref.go:122", after := #[{ on := 0, ground := Ground.data }], guard := none }, { dst := some 124, op := Op.move (Operand.tmp 17), type := 3, pos := "ref.go:122", after := #[], guard := none }, { dst := some 125, op := Op.indexAddr 62 (Operand.tmp 123) (Operand.tmp 124), type := 0, pos := "ref.go:122", after := #[{ on := 1, ground := Ground.data }, { on := 2, ground := Ground.data }], guard := none }, { dst := some 126, op := Op.load 60 (Operand.tmp 125), type := 60, pos := "ref.go:122", after := #[{ on := 3, ground := Ground.data }], guard := none }, { dst := some 18, op := Op.alloc 60, type := 0, pos := "ref.go:122", after := #[], guard := none }, { dst := none, op := Op.store 60 (Operand.tmp 18) (Operand.tmp 126), type := 0, pos := "ref.go:122", after := #[{ on := 5, ground := Ground.data }, { on := 4, ground := Ground.data }, { on := 0, ground := Ground.phase }, { on := 1, ground := Ground.phase }, { on := 2, ground := Ground.phase }, { on := 3, ground := Ground.phase }, { on := 4, ground := Ground.phase }, { on := 5, ground := Ground.phase }], guard := none }] false).seq ((Code.region 24 #[{ dst := some 127, op := Op.fieldAddr 60 (Operand.tmp 18) 0, type := 0, pos := "ref.go:123", after := #[], guard := none }, { dst := some 128, op := Op.load 58 (Operand.tmp 127), type := 58, pos := "ref.go:123", after := #[{ on := 0, ground := Ground.data }], guard := none }, { dst := some 129, op := Op.binOp BinOp.eql 58 (Operand.tmp 128) (Operand.const (Value.int IntKind.i64 1)) 58, type := 4, pos := "ref.go:123", after := #[{ on := 1, ground := Ground.data }], guard := none }] false).seq (Code.cond (Operand.tmp 129) ((Code.region 25 #[{ dst := some 130, op := Op.load 47 (Operand.tmp 15), type := 47, pos := "ref.go:124", after := #[], guard := none }, { dst := some 131, op := Op.move (Operand.tmp 6), type := 38, pos := "ref.go:124", after := #[], guard := none }, { dst := some 132, op := Op.fieldAddr 60 (Operand.tmp 18) 2, type := 0, pos := "ref.go:124", after := #[], guard := none }, { dst := some 133, op := Op.load 3 (Operand.tmp 132), type := 3, pos := "ref.go:124", after := #[{ on := 2, ground := Ground.data }], guard := none }, { dst := some 134, op := Op.indexAddr 38 (Operand.tmp 131) (Operand.tmp 133), type := 0, pos := "ref.go:124", after := #[{ on := 1, ground := Ground.data }, { on := 3, ground := Ground.data }], guard := none }, { dst := some 135, op := Op.load 47 (Operand.tmp 134), type := 47, pos := "ref.go:124", after := #[{ on := 4, ground := Ground.data }], guard := none }, { dst := some 136, op := Op.call { callee := Callee.value (Operand.func 57), args := #[Operand.tmp 130, Operand.tmp 135, Operand.const (Value.int IntKind.i64 1)], argTypes := #[47, 47, 3] }, type := 47, pos := "ref.go:124", after := #[{ on := 0, ground := Ground.data }, { on := 5, ground := Ground.data }], guard := none }, { dst := none, op := Op.store 47 (Operand.tmp 15) (Operand.tmp 136), type := 0, pos := "ref.go:124", after := #[{ on := 6, ground := Ground.data }, { on := 6, ground := Ground.chain }, { on := 0, ground := Ground.phase }, { on := 1, ground := Ground.phase }, { on := 2, ground := Ground.phase }, { on := 3, ground := Ground.phase }, { on := 4, ground := Ground.phase }, { on := 5, ground := Ground.phase }, { on := 6, ground := Ground.phase }], guard := none }] true).seq (Code.region 26 #[{ dst := some 137, op := Op.move (Operand.tmp 5), type := 31, pos := "ref.go:125", after := #[], guard := none }, { dst := some 138, op := Op.fieldAddr 60 (Operand.tmp 18) 2, type := 0, pos := "ref.go:125", after := #[], guard := none }, { dst := some 139, op := Op.load 3 (Operand.tmp 138), type := 3, pos := "ref.go:125", after := #[{ on := 1, ground := Ground.data }], guard := none }, { dst := some 140, op := Op.indexAddr 31 (Operand.tmp 137) (Operand.tmp 139), type := 0, pos := "ref.go:125", after := #[{ on := 0, ground := Ground.data }, { on := 2, ground := Ground.data }], guard := none }, { dst := some 141, op := Op.load 4 (Operand.tmp 140), type := 4, pos := "ref.go:125", after := #[{ on := 3, ground := Ground.data }], guard := none }, { dst := some 16, op := Op.assign (Operand.tmp 141), type := 4, pos := "ref.go:125", after := #[{ on := 4, ground := Ground.data }, { on := 0, ground := Ground.phase }, { on := 1, ground := Ground.phase }, { on := 2, ground := Ground.phase }, { on := 3, ground := Ground.phase }, { on := 4, ground := Ground.phase }], guard := none }] false)) ((Code.region 27 #[{ dst := some 142, op := Op.load 47 (Operand.tmp 15), type := 47, pos := "ref.go:127", after := #[], guard := none }, { dst := some 143, op := Op.fieldAddr 60 (Operand.tmp 18) 1, type := 0, pos := "ref.go:127", after := #[], guard := none }, { dst := some 144, op := Op.load 47 (Operand.tmp 143), type := 47, pos := "ref.go:127", after := #[{ on := 1, ground := Ground.data }], guard := none }, { dst := some 145, op := Op.call { callee := Callee.value (Operand.func 57), args := #[Operand.tmp 142, Operand.tmp 144, Operand.const (Value.int IntKind.i64 1)], argTypes := #[47, 47, 3] }, type := 47, pos := "ref.go:127", after := #[{ on := 0, ground := Ground.data }, { on := 2, ground := Ground.data }], guard := none }, { dst := none, op := Op.store 47 (Operand.tmp 15) (Operand.tmp 145), type := 0, pos := "ref.go:127", after := #[{ on := 3, ground := Ground.data }, { on := 3, ground := Ground.chain }, { on := 0, ground := Ground.phase }, { on := 1, ground := Ground.phase }, { on := 2, ground := Ground.phase }, { on := 3, ground := Ground.phase }], guard := none }] false).seq (Code.region 28 #[{ dst := some 16, op := Op.assign (Operand.const (Value.bool false)), type := 4, pos := "ref.go:128", after := #[], guard := none }] false)))))).seq (Code.region 22 #[{ dst := some 120, op := Op.move (Operand.tmp 17), type := 3, pos := "ref.go:121", after := #[], guard := none }, { dst := some 121, op := Op.binOp BinOp.add 3 (Operand.tmp 120) (Operand.const (Value.int IntKind.i64 1)) 3, type := 3, pos := "ref.go:121", after := #[{ on := 0, ground := Ground.data }], guard := none }, { dst := some 17, op := Op.assign (Operand.tmp 121), type := 3, pos := "ref.go:121", after := #[{ on := 1, ground := Ground.data }, { on := 0, ground := Ground.phase }, { on := 1, ground := Ground.phase }], guard := none }] false))).loop) (Exit.then K Q0) ⟨#[x0, x1, x2, x3, x4, .slice (some ⟨Bn, 0, none⟩) n n, .slice (some ⟨Bf, 0, none⟩) n n, x7, x8, x9, x10, x11, .pointer (some ⟨Bp, 0, none⟩), x13, x14, .pointer (some ⟨Bq, 0, none⟩), .bool true, .int .i64 ((m : Int) + 1), x18, x19, x20, x21, x22, x23, x24, x25, x26, x27, x28, x29, x30, x31, x32, x33, x34, x35, x36, x37, x38, x39, x40, x41, x42, x43, x44, x45, x46, x47, x48, x49, x50, x51, x52, x53, x54, x55, x56, x57, x58, x59, x60, x61, x62, x63, x64, x65, x66, x67, x68, x69, x70, x71, x72, x73, x74, x75, x76, x77, x78, x79, x80, x81, x82, x83, x84, x85, x86, x87, x88, x89, x90, x91, x92, x93, x94, x95, x96, x97, x98, x99, x100, x101, x102, x103, x104, x105, x106, x107, x108, x109, x110, x111, x112, x113, x114, x115, x116, x117, x118, x119, x120, x121, x122, x123, x124, x125, x126, x127, x128, x129, x130, x131, x132, x133, x134, x135, x136, x137, x138, x139, x140, x141, x142, x143, x144, x145, x146, x147, x148, x149, x150, x151, x152, x153, x154, x155, x156, x157, x158, x159, x160, x161, x162, x163, x164, x165, x166, x167, x168, x169, x170, x171, x172, x173, x174, x175, x176, x177, x178, x179, x180, x181, x182, x183, x184, x185, x186, x187, x188, x189, x190, x191, x192, x193, x194, x195, x196, x197, x198, x199, x200, x201], []⟩ W5 := by
 go_wp2_with fail
 go_loopg [16, 17, 18] (xn - (m + 1)) (fun gg va vi v18 wr => ∃ (a : Bool) (i : Nat) (u : BS), va = .bool a ∧ vi = .int .i64 i ∧ i ≤ xn ∧ xn - i ≤ gg ∧ Hid (FarB F M xr q z i u a ∧ Blk wr Bq 47 (cset u) ∧ Below Bq w3r wr))
 case atStart => exact ⟨true, m + 1, b1, rfl, by go_num, hlm, Nat.le_refl _, HI4⟩
 case round =>
  clear HI4
  obtain ⟨a, i, u, rfl, rfl, hi, hgg, K4⟩ := hrel
  have HF4 := Lib.hid (HF3.out.below (K4.out.2.2.mono hw3))
  have HP4 := Lib.hid (HP3.out.below K4.out.2.2 hqp)
  have HQ4 := Lib.hid K4.out.2.1
  obtain ⟨p0, p1, p2, p3, p4, p5, p6⟩ := cells7g HP4.out
  have pl := HP4.out.lt
  by_cases hgo : a = true ∧ i < xn
  ·obtain ⟨rfl, hlt⟩ := hgo
   obtain ⟨y, hy⟩ : ∃ y, xr[i]? = some y := ⟨_, List.getElem?_eq_getElem (by rw [← HXn.out]; exact hlt)⟩
   obtain ⟨b3, o3, e3, hb3, hc3, _⟩ := HXI.out.1 i y hy
   obtain ⟨s0, s1, s2, s3, s4, s5⟩ := Sym_at (hc3.below (LB.b HF4.out) hb3)
   have hb3' := Nat.lt_of_lt_of_le hb3 (LB.b HF4.out).size
   have v1 : (i : Int) < (xn : Int) := by omega
   have v0 : (0 : Int) ≤ (i : Int) := by omega
   have hym := List.mem_of_getElem? hy
   have HStep := Lib.hid (K4.out.1.step hy)
   have HYk := Lib.hid (And.intro (HXI.out.2.2.1 y hym) (HXI.out.2.2.2 y hym))
   dsimp only at e3
   rw [e3] at p1
   clear hy hc3 hym e3
   obtain ⟨sk, ss, so⟩ := y
   dsimp only at *
   have hBx : Below wr.heap.size wr (wr.alloc (.cells #[.int .i64 sk, .int .u64 (wdI ss 0), .int .u64 (wdI ss 1), .int .u64 (wdI ss 2), .int .u64 (wdI ss 3), .int .i64 so] 60)) := (Below.refl _ _).alloc (Nat.le_refl _) _
   have HQx := Lib.hid (HQ4.out.below hBx HQ4.out.lt)
   have HLx := Lib.hid (K4.out.2.2.trans (hBx.mono (Nat.le_of_lt HQ4.out.lt)))
   have HSb := Lib.hid (Blk.new wr 60 #[.int .i64 sk, .int .u64 (wdI ss 0), .int .u64 (wdI ss 1), .int .u64 (wdI ss 2), .int .u64 (wdI ss 3), .int .i64 so])
   have hqx : wr.heap.size ≠ Bq := by have := HQ4.out.lt; omega
   obtain ⟨Bx, hBx'⟩ : ∃ Bx, Bx = wr.heap.size := ⟨_, rfl⟩
   have HBxe := Lib.hid hBx'
   obtain ⟨W1, hW1⟩ : ∃ W1, W1 = wr.alloc (.cells #[.int .i64 sk, .int .u64 (wdI ss 0), .int .u64 (wdI ss 1), .int .u64 (wdI ss 2), .int .u64 (wdI ss 3), .int .i64 so] 60) := ⟨_, rfl⟩
   have HW1 := Lib.hid hW1
   rw [← hBx'] at hqx
   rw [← hBx', ← hW1] at HSb
   rw [← hW1] at HQx HLx
   clear K4 hBx hBx' hW1 HP4 HQ4 HF4
   go_upto_region 24 with fail
   rw [← HBxe.out, ← HW1.out]
   obtain ⟨t0, t1, t2, t3, t4, t5⟩ := cells6s HSb.out
   have tl := HSb.out.lt
   have hqc := HQx.out
   unfold cset at hqc
   obtain ⟨e0, e1', e2, e3⟩ := cells4q hqc
   have el := hqc.lt
   clear p0 p1 p2 p3 p4 p5 p6 pl s0 s1 s2 s3 s4 s5 hb3 hb3' hqc HW1 HBxe
   cases k1 : (sk == 1) with
   | false =>
    have hk0 : sk = 0 := by
     rcases HYk.out.1 with h | h
     ·exact h
     ·rw [h] at k1; cases k1
    have HFE : Hid (FarB F M xr q z (i + 1) (u ||| ss) false) := Lib.hid (by
     have h := HStep.out
     unfold symF symE at h
     rw [if_pos hk0, if_pos hk0] at h
     exact h)
    have HBoth := Lib.hid (fun W => rboth_join u ss W)
    unfold vset at HBoth
    clear HStep HYk hk0
    go_wp2_with fail
    with_reducible refine (HBoth.out _).mono ?_
    rintro e w7 ⟨rfl, hB7⟩
    have hQ7 := HQx.out.below hB7 el
    have hL7 := HLx.out.trans (hB7.mono (Nat.le_of_lt el))
    have HZ : Hid (FarB F M xr q z (i + 1) (u ||| ss) false ∧ Blk (put4 w7 Bq 0 (u ||| ss)) Bq 47 (cset (u ||| ss)) ∧ Below Bq w3r (put4 w7 Bq 0 (u ||| ss))) := Lib.hid ⟨HFE.out, put4_one hQ7 _, put4_low hL7 (Nat.le_refl _)⟩
    have hqc := hQ7
    unfold cset at hqc
    obtain ⟨g0, g1, g2, g3⟩ := cells4q hqc
    have gl := hqc.lt
    have gf := hqc.frozen
    clear hB7 hQ7 hL7 hqc HBoth HFE HQx HLx HSb t0 t1 t2 t3 t4 t5 tl e0 e1' e2 e3 el k1
    go_wp2
    go_roundg (xn - (i + 1))
    case rel => exact ⟨false, i + 1, u ||| ss, rfl, by go_num, by omega, Nat.le_refl _, HZ⟩
    case measure => omega
   | true =>
    have hk1 : sk = 1 := by simpa using k1
    obtain ⟨kq, hkq, hkn2⟩ := HYk.out.2 hk1
    rw [← N1.out] at hkn2
    subst hkq
    obtain ⟨m2, hm2⟩ : ∃ m2, F[kq]? = some m2 := ⟨_, List.getElem?_eq_getElem (by rw [HFp.out.1, ← N1.out]; exact hkn2)⟩
    have HGm := Lib.hid hm2
    obtain ⟨ev, hev⟩ : ∃ ev, ev = lv M (kq : Int) := ⟨_, rfl⟩
    have HEv := Lib.hid hev
    have HFE : Hid (FarB F M xr q z (i + 1) (u ||| m2) ev) := Lib.hid (by
     have h := HStep.out
     unfold symF symE at h
     rw [if_neg (by dsimp only; omega), if_neg (by dsimp only; omega), ← hev, Int.toNat_natCast, List.getD_eq_getElem?_getD, hm2] at h
     exact h)
    have HBoth := Lib.hid (fun W => rboth_join u m2 W)
    unfold vset at HBoth
    have ky1 : (kq : Int) < (n : Int) := by omega
    have ky0 : (0 : Int) ≤ (kq : Int) := by omega
    have hkM : kq < M.length := by rw [HNp.out.1, ← N1.out]; exact hkn2
    have HFx := Lib.hid (HF3.out.below (HLx.out.mono hw3))
    clear HStep HYk hm2 hev hk1
    go_wp2
    refine wp_region_still_tail 6 (by kernel_rfl) (by kernel_rfl) ?_
    show wpStill _ _ (World.drew W1) _ _ _
    obtain ⟨V, hV⟩ : ∃ V, V = World.drew W1 := ⟨_, rfl⟩
    have HV := Lib.hid hV
    rw [← hV]
    have HFV : Hid (LBB g w Bs Bn Bf Bi Bo Be S M F BB V) := Lib.hid (by rw [hV]; exact HFx.out.below (Below.refl _ _).drew)
    have HQV : Hid (Blk V Bq 47 (cset u)) := Lib.hid (by rw [hV]; exact HQx.out.drew)
    have HSV : Hid (Blk V Bx 60 #[.int .i64 sk, .int .u64 (wdI ss 0), .int .u64 (wdI ss 1), .int .u64 (wdI ss 2), .int .u64 (wdI ss 3), .int .i64 (kq : Int)]) := Lib.hid (by rw [hV]; exact HSb.out.drew)
    have HLV : Hid (Below Bq w3r V) := Lib.hid (by rw [hV]; exact HLx.out.drew)
    clear hV t0 t1 t2 t3 t4 t5 tl e0 e1' e2 e3 el HFx HQx HLx HSb
    obtain ⟨t0, t1, t2, t3, t4, t5⟩ := cells6s HSV.out
    have tl := HSV.out.lt
    have hqc := HQV.out
    unfold cset at hqc
    obtain ⟨e0, e1', e2, e3⟩ := cells4q hqc
    have el := hqc.lt
    obtain ⟨o0, o1, o2, o3⟩ := set_cells (LB.f HFV.out) HGm.out
    have ol := (LB.f HFV.out).lt
    clear hqc
    simp only [List.take_succ_cons, List.take_zero, List.drop_succ_cons, List.drop_zero]
    repeat still_step
    refine wpStill_nil ?_
    show wpList _ _ _ _ _ (World.drew W1)
    rw [← HV.out]
    clear HV t0 t1 t2 t3 t4 t5 tl e0 e1' e2 e3 o0 o1 o2 o3 ol
    go_wp2_with fail
    with_reducible refine (HBoth.out _).mono ?_
    rintro e w7 ⟨rfl, hB7⟩
    have hQ7 := HQV.out.below hB7 el
    have hL7 := HLV.out.trans (hB7.mono (Nat.le_of_lt el))
    have hS7 := HSV.out.below hB7 HSV.out.lt
    obtain ⟨W8, hW8⟩ : ∃ W8, W8 = put4 w7 Bq 0 (u ||| m2) := ⟨_, rfl⟩
    have HW8 := Lib.hid hW8
    have hQ8 : Blk W8 Bq 47 (cset (u ||| m2)) := by rw [hW8]; exact put4_one hQ7 _
    have hL8 : Below Bq w3r W8 := by rw [hW8]; exact put4_low hL7 (Nat.le_refl _)
    have hS8 : Blk W8 Bx 60 #[.int .i64 sk, .int .u64 (wdI ss 0), .int .u64 (wdI ss 1), .int .u64 (wdI ss 2), .int .u64 (wdI ss 3), .int .i64 (kq : Int)] := by rw [hW8]; exact put4_other hS7 hqx
    have hF8 := HF3.out.below (hL8.mono hw3)
    have hN8 := (LB.nl hF8).cell kq
    have hn8 := (LB.nl hF8).lt
    rw [bools_at M kq hkM, ← HEv.out] at hN8
    have HZ : Hid (FarB F M xr q z (i + 1) (u ||| m2) ev ∧ Blk W8 Bq 47 (cset (u ||| m2)) ∧ Below Bq w3r W8) := Lib.hid ⟨HFE.out, hQ8, hL8⟩
    have hqc := hQ7
    unfold cset at hqc
    obtain ⟨g0, g1, g2, g3⟩ := cells4q hqc
    have gl := hqc.lt
    have gf := hqc.frozen
    have HS8 := Lib.hid hS8
    have HN8 := Lib.hid (And.intro hN8 hn8)
    clear hB7 hQ7 hL7 hS7 hqc hQ8 hL8 hS8 hF8 hN8 hn8 HBoth HFE HQV HFV HLV HSV hW8 el k1
    unfold put4 at HW8
    go_upto_region 26 with fail
    rw [← HW8.out]
    clear g0 g1 g2 g3 gl gf HW8
    obtain ⟨t0, t1, t2, t3, t4, t5⟩ := cells6s HS8.out
    have tl := HS8.out.lt
    obtain ⟨hN8, hn8⟩ := HN8.out
    go_wp2
    go_roundg (xn - (i + 1))
    case rel => exact ⟨ev, i + 1, u ||| m2, rfl, by go_num, by omega, Nat.le_refl _, HZ⟩
    case measure => omega
  ·have hk : a = false ∨ xr.length ≤ i := by
    cases a with
    | false => exact .inl rfl
    | true => exact .inr (by rw [← HXn.out]; exact Nat.le_of_not_lt fun h => hgo ⟨rfl, h⟩)
   obtain ⟨rfl, rfl⟩ := K4.out.1.done hk
   have HZ : Hid (Blk wr Bq 47 (cset u) ∧ Below Bq w3r wr) := Lib.hid ⟨K4.out.2.1, K4.out.2.2⟩
   have HGo := Lib.hid hgo
   clear K4 hgo hk HF4 HP4 HQ4
   by_cases hlt : i < xn
   ·have ha : a = false := by
     cases a with
     | false => rfl
     | true => exact absurd ⟨rfl, hlt⟩ HGo.out
    subst ha
    go_wp2
    exact HK.out _ _ ⟨_, _, _, _, _, _, _, _, _, _, _, _, _, _, _, _, _, _, _, _, _, _, _, _, _, _, _, _, _, _, _, _, _, _, _, _, HZ, rfl⟩
   ·obtain rfl : i = xn := by omega
    go_wp2
    exact HK.out _ _ ⟨_, _, _, _, _, _, _, _, _, _, _, _, _, _, _, _, _, _, _, _, _, _, _, _, _, _, _, _, _, _, _, _, _, _, _, _, HZ, rfl⟩
end Go.Proofs.YtodnlcbnbkkanaaGreatDoor
end
