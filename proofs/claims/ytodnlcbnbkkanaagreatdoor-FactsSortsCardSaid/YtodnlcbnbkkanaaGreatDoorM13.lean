import Derived.RegionTactic
import Derived.BigRegion
import Derived.IntWalk
import Derived.Deep.DeepCutAuto
import Derived.Test.YtodnlcbnbkkanaaGreatDoorM2
import Derived.Test.YtodnlcbnbkkanaaGreatDoorM4
import Derived.Test.YtodnlcbnbkkanaaGreatDoorM5
import Derived.Test.YtodnlcbnbkkanaaGreatDoorM12
section
namespace Go.Proofs.YtodnlcbnbkkanaaGreatDoor
open Go Go.RowKit

set_option maxRecDepth 100000 in
set_option maxHeartbeats 8000000 in
/-- The reference's Circular. -/
theorem rcircular_any (g : GramM) (hm : MayB g) (hs : MaySet g) (w : World) (hg : GIn w g) : Calls Tryz.prog 21 #[gramV g] w (MarksPost w (CircP g)) := by
  have HA := Lib.hid (And.intro hm (And.intro hs hg))
  have hn1 := hm.sorts2
  have hn2 := hm.prods
  have HSh := Lib.hid (fun W (hW : Below w.heap.size w W) => rshort_weak g hm hs W (hg.below hW))
  have HNu := Lib.hid (fun W (hW : Below w.heap.size w W) => rnull_weak g hm hs W (hg.below hW))
  have HB0 : Hid (Below w.heap.size w (w.alloc (.cells (gramC g) 27))) := Lib.hid ((Below.refl _ _).alloc (Nat.le_refl _) _)
  have HK0 : Hid (Blk (w.alloc (.cells (gramC g) 27)) w.heap.size 27 (gramC g)) := Lib.hid (Blk.new w 27 _)
  obtain ⟨n, hn⟩ : ∃ n, n = g.sorts.length := ⟨_, rfl⟩
  obtain ⟨np, hnp⟩ : ∃ n, n = g.prods.length := ⟨_, rfl⟩
  have N1 := Lib.hid hn
  have N2 := Lib.hid hnp
  rw [← hn] at hn1 HSh HNu
  rw [← hnp] at hn2
  clear hm hs hg
  unfold gramV gramC at *
  rw [← hn, ← hnp] at HB0 HK0 HSh HNu ⊢
  have HGr : Hid (gramC g = #[.slice g.sa n g.sc, .slice g.pa np g.pc, .int .i64 g.start, .slice g.fa g.forbid.length g.fc, .slice g.wa g.follow.length g.wc]) := Lib.hid (by rw [hn, hnp]; rfl)
  clear hn hnp
  go_enter Tryz.func21, Tryz.ntmps21
  go_upto_region 1 with fail
  go_cut [3, 4] from 20 (fun s3 s4 wx => ∃ Bs Bn S M, s3 = .slice (some ⟨Bs, 0, none⟩) n n ∧ s4 = .slice (some ⟨Bn, 0, none⟩) n n ∧ Hid (TwoC g w Bs Bn S M wx ∧ w.heap.size < Bs ∧ w.heap.size < Bn))
  case first =>
    obtain ⟨c0, c1, c2, c3, c4⟩ := cells5s HK0.out
    have l0 := HK0.out.lt
    go_region_law (first
      | (go_simp; go_at_call 30; refine (HSh.out _ HB0.out.drew).mono ?_; rintro e ws ⟨S, Bs, hS, rfl, hbs, hks, hBs⟩; have HS := Lib.hid hS; have HKs := Lib.hid hks; have HBs := Lib.hid (HB0.out.drew.trans (hBs.mono HB0.out.drew.size)); have HK1 := Lib.hid (HK0.out.drew.below hBs HK0.out.drew.lt); have Hbs := Lib.hid hbs; obtain ⟨d0, d1, d2, d3, d4⟩ := cells5s HK1.out; have l1 := HK1.out.lt; clear hS hbs hks hBs)
      | (go_simp; go_at_call 20; refine (HNu.out _ HBs.out).mono ?_; rintro e wn ⟨M, Bn, hM, rfl, hbn, hkn, hBn⟩; have HM := Lib.hid hM; have HKn := Lib.hid hkn; have HBn := Lib.hid hBn; have Hbn := Lib.hid hbn; clear hM hbn hkn hBn))
    all_goals (
      go_wp2
      go_meet
      case rel =>
        refine ⟨_, _, S, M, rfl, rfl, Lib.hid ⟨⟨by rw [HGr.out]; exact HK1.out.below HBn.out HK1.out.lt, HKs.out.below HBn.out HKs.out.lt, HKn.out, HBs.out.trans (HBn.out.mono HBs.out.size), HS.out, HM.out⟩, ?_, ?_⟩⟩
        · have := Hbs.out; simp at this; omega
        · have := Hbn.out; have := HK1.out.lt; omega)
  obtain ⟨Bs, Bn, S, M, rfl, rfl, HT⟩ := hcut
  clear HSh HNu HB0 HK0
  have HT0 := Lib.hid (show Blk wc w.heap.size 27 #[.slice g.sa n g.sc, .slice g.pa np g.pc, .int .i64 g.start, .slice g.fa g.forbid.length g.fc, .slice g.wa g.follow.length g.wc] by rw [← HGr.out]; exact HT.out.1.b0)
  obtain ⟨c0, c1, c2, c3, c4⟩ := cells5s HT0.out
  have lc := HT0.out.lt
  obtain ⟨nn, hnn⟩ : ∃ nn, nn = n * n := ⟨_, rfl⟩
  have HNN := Lib.hid hnn
  have hnl : nn ≤ 1000000 := by rw [hnn]; exact Nat.mul_le_mul hn1 hn1
  have z0 : IntKind.i64.wrap ((n : Int) * (n : Int)) = (nn : Int) := by
    rw [show ((n : Int) * (n : Int)) = ((nn : Nat) : Int) by rw [hnn]; exact (Int.natCast_mul n n).symm]
    exact IntWalk.i64_in _ (by omega)
  have hmk := fun w' => make_many nn hnl w'
  have HE0 : Hid (EdgeR g S M 0 0 = fun _ _ => False) := Lib.hid (by funext a b; exact propext ⟨fun h => EdgeR.zero h, fun h => h.elim⟩)
  have HC0 : Hid (CB g w Bs Bn wc.heap.size n S M (fun _ _ => false) (wc.alloc (.cells (bools (List.replicate nn false)) 4))) := Lib.hid (by
    have h2 := Blk.new wc 4 (bools (List.replicate nn false))
    have h0 := HT.out.1
    refine ⟨h0.b0.alloc _, h0.s.alloc _, h0.nl.alloc _, ?_, h0.b.alloc h0.b.size _, ?_⟩
    · rw [matL_none, ← HNN.out]; exact h2
    · have a1 := h0.s.lt
      have a2 := h0.nl.lt
      have a3 := h0.b0.lt
      exact ⟨a3, by omega, by omega⟩)
  have hwd : w.heap.size < wc.heap.size := lc
  obtain ⟨Bd, hBd⟩ : ∃ Bd, Bd = wc.heap.size := ⟨_, rfl⟩
  have HBd := Lib.hid hBd
  rw [← hBd] at HC0
  obtain ⟨RL, hRL⟩ : ∃ RL : Array Value, RL = bools (List.replicate nn false) := ⟨_, rfl⟩
  rw [← hRL] at HC0 hmk
  clear hnn HT0 hBd hRL
  go_wp2
  rw [← HBd.out]
  go_loopw [7] (fun vi wr => ∃ (j : Nat) (m : Nat → Nat → Bool), vi = .int .i64 j ∧ j ≤ np ∧ Hid (CB g w Bs Bn Bd n S M m wr ∧ ∀ a b, m a b = true ↔ EdgeR g S M j 0 a b)) (fun vi _ => np - (intOf vi).toNat)
  case atStart => exact ⟨0, _, rfl, Nat.zero_le _, Lib.hid ⟨HC0.out, fun a b => ⟨fun h => (by cases h), fun h => absurd h EdgeR.zero⟩⟩⟩
  case round =>
    clear HC0 hmk c0 c1 c2 c3 c4 lc z0
    obtain ⟨j, m, rfl, hj, K⟩ := hrel
    have hb0 : Blk wr w.heap.size 27 #[.slice g.sa n g.sc, .slice g.pa np g.pc, .int .i64 g.start, .slice g.fa g.forbid.length g.fc, .slice g.wa g.follow.length g.wc] := by rw [← HGr.out]; exact K.out.1.b0
    obtain ⟨c0, c1, c2, c3, c4⟩ := cells5s hb0
    have l0 := hb0.lt
    by_cases hlj : j < np
    · obtain ⟨x, hx⟩ : ∃ x, g.prods[j]? = some x := ⟨_, List.getElem?_eq_getElem (by rw [← N2.out]; exact hlj)⟩
      obtain ⟨b1, o1, e1, hb1, hc1, hi1⟩ := HA.out.2.2.prods j x hx
      obtain ⟨x0, x1, x2, x3, x4, x5, x6⟩ := Prod_at (hc1.below K.out.1.b hb1)
      have hb1' := Nat.lt_of_lt_of_le hb1 K.out.1.b.size
      have y2 : (j : Int) < (np : Int) := by omega
      have y0 : (0 : Int) ≤ (j : Int) := by omega
      have hxm := List.mem_of_getElem? hx
      obtain ⟨k, hk, hkn⟩ := HA.out.1.left x hxm
      have HX := Lib.hid hx
      have HXI := Lib.hid (And.intro hi1 (And.intro (HA.out.1.right x hxm) (And.intro (HA.out.1.kind x hxm) (HA.out.1.sym x hxm))))
      have HXb := Lib.hid (Blk.new wr 65 (prodC x))
      have HK1 := Lib.hid (K.out.1.below (V := wr.alloc (.cells (prodC x) 65)) ((Below.refl _ _).alloc (Nat.le_refl _) _))
      have HEd := Lib.hid K.out.2
      have hdb : Bd < wr.heap.size := K.out.1.d.lt
      have HTr := Lib.hid (fun W => rtree_any x W)
      rw [e1] at c1
      have hkn' : k < n := by rw [N1.out]; exact hkn
      clear K hx hi1 hc1 hxm hkn e1 hb0
      obtain ⟨xf, xra, xrc, xr, xco, xro, xpr, xav, xfr⟩ := x
      unfold prodC at HXb HK1
      unfold prodV at HTr
      unfold prodC at HTr
      dsimp only at *
      subst hk
      obtain ⟨xn, hxn⟩ : ∃ xn, xn = xr.length := ⟨_, rfl⟩
      have HXn := Lib.hid hxn
      rw [← hxn] at HXb HK1 HTr x1
      have hx30 : xn ≤ 30 := by rw [hxn]; exact HXI.out.2.1
      obtain ⟨Bp, hBp⟩ : ∃ Bp, Bp = wr.heap.size := ⟨_, rfl⟩
      have HBp := Lib.hid hBp
      have hpd : Bp ≠ Bd := by omega
      rw [← hBp] at HXb
      clear hxn hBp
      go_wp2_with fail
      rw [← HBp.out]
      with_reducible refine (HTr.out _).mono ?_
      rintro e w3 ⟨rfl, hB3⟩
      have HK3 := Lib.hid (HK1.out.below hB3)
      have hX3 := HXb.out.below hB3 HXb.out.lt
      have HX3 := Lib.hid hX3
      obtain ⟨d0, d1, d2, d3, d4, d5, d6⟩ := cells7g hX3
      have dl := hX3.lt
      clear hB3 HTr HXb HK1 hX3 x0 x1 x2 x3 x4 x5 x6 c0 c1 c2 c3 c4 l0 hb1 hb1' hdb HBp
      cases hr : (xro == 11) with
      | true =>
        have HZ : Hid (CB g w Bs Bn Bd n S M m w3 ∧ ∀ a b, m a b = true ↔ EdgeR g S M (j + 1) 0 a b) := Lib.hid ⟨HK3.out, fun a b => (HEd.out a b).trans (EdgeR.skip HX.out (fun h => absurd (by simpa using hr) h))⟩
        clear HK3 HEd hr
        go_wp2
        go_roundw
        case rel => exact ⟨j + 1, m, by go_num, by omega, HZ⟩
        case measure => simp [intOf]; omega
      | false =>
        have Hr : Hid (¬ xro = 11) := Lib.hid (by simpa using hr)
        have HI0 : Hid (CB g w Bs Bn Bd n S M m w3 ∧ Blk w3 Bp 65 #[.int .i64 (k : Int), .slice xra xn xrc, .string xco, .int .i64 xro, .bool xpr, .bool xav, .int .i64 xfr] ∧ ∀ a b, m a b = true ↔ EdgeR g S M j 0 a b) := Lib.hid ⟨HK3.out, HX3.out, HEd.out⟩
        clear HK3 HX3 HEd hr d0 d1 d2 d3 d4 d5 d6 dl
        go_wp2
        obtain ⟨wo, rfl⟩ : ∃ wo : World, wo = wr := ⟨_, rfl⟩
        go_loopg [9] xn (fun gg vi wr => ∃ (i : Nat) (m : Nat → Nat → Bool), vi = .int .i64 i ∧ i ≤ xn ∧ xn - i ≤ gg ∧ Hid (CB g w Bs Bn Bd n S M m wr ∧ Blk wr Bp 65 #[.int .i64 (k : Int), .slice xra xn xrc, .string xco, .int .i64 xro, .bool xpr, .bool xav, .int .i64 xfr] ∧ ∀ a b, m a b = true ↔ EdgeR g S M j i a b))
        case atStart => exact ⟨0, m, rfl, Nat.zero_le _, Nat.le_refl _, HI0⟩
        case round =>
          clear HI0
          obtain ⟨i, m, rfl, hi, hgg, K⟩ := hrel
          obtain ⟨d0, d1, d2, d3, d4, d5, d6⟩ := cells7g K.out.2.1
          have dl := K.out.2.1.lt
          by_cases hlt : i < xn
          · obtain ⟨s, hs⟩ : ∃ s, xr[i]? = some s := ⟨_, List.getElem?_eq_getElem (by rw [← HXn.out]; exact hlt)⟩
            obtain ⟨b1, o1, e1, hb1, hc1, _⟩ := HXI.out.1 i s hs
            obtain ⟨s0, s1, s2, s3, s4, s5⟩ := Sym_at (hc1.below K.out.1.b hb1)
            have hb1' := Nat.lt_of_lt_of_le hb1 K.out.1.b.size
            have y1 : (i : Int) < (xn : Int) := by omega
            have y0 : (0 : Int) ≤ (i : Int) := by omega
            have hsm := List.mem_of_getElem? hs
            have HSi := Lib.hid hs
            have HSk := Lib.hid (And.intro (HXI.out.2.2.1 s hsm) (HXI.out.2.2.2 s hsm))
            dsimp only at e1
            rw [e1] at d1
            clear hs hc1 hsm e1
            obtain ⟨sk, ss, so⟩ := s
            dsimp only at *
            have hBx : Below wr.heap.size wr (wr.alloc (.cells #[.int .i64 sk, .int .u64 (wdI ss 0), .int .u64 (wdI ss 1), .int .u64 (wdI ss 2), .int .u64 (wdI ss 3), .int .i64 so] 60)) := (Below.refl _ _).alloc (Nat.le_refl _) _
            have HBx := Lib.hid hBx
            have HCx := Lib.hid (K.out.1.below hBx)
            have HPx := Lib.hid (K.out.2.1.below hBx K.out.2.1.lt)
            have HSb := Lib.hid (Blk.new wr 60 #[.int .i64 sk, .int .u64 (wdI ss 0), .int .u64 (wdI ss 1), .int .u64 (wdI ss 2), .int .u64 (wdI ss 3), .int .i64 so])
            have HEd := Lib.hid K.out.2.2
            have hsd : Bd < wr.heap.size := K.out.1.d.lt
            have hBsl := K.out.1.s.lt
            obtain ⟨Bx, hBx'⟩ : ∃ Bx, Bx = wr.heap.size := ⟨_, rfl⟩
            have HBxe := Lib.hid hBx'
            have hxd : Bx ≠ Bd := by omega
            obtain ⟨W1, hW1⟩ : ∃ W1, W1 = wr.alloc (.cells #[.int .i64 sk, .int .u64 (wdI ss 0), .int .u64 (wdI ss 1), .int .u64 (wdI ss 2), .int .u64 (wdI ss 3), .int .i64 so] 60) := ⟨_, rfl⟩
            have HW1 := Lib.hid hW1
            rw [← hBx', ← hW1] at HSb
            rw [← hW1] at HCx HPx HBx
            clear K hBx hBx' hW1
            go_upto_region 13 with fail
            rw [← HBxe.out, ← HW1.out]
            obtain ⟨t0, t1, t2, t3, t4, t5⟩ := cells6s HSb.out
            have tl := HSb.out.lt
            clear d0 d1 d2 d3 d4 d5 d6 dl s0 s1 s2 s3 s4 s5 hb1 hb1'
            go_cut [11] from 46 to 108 (fun sa wx => ∃ al : Bool, sa = .bool al ∧ wx = W1 ∧ Hid (al = true ↔ (sk = 1 ∧ 0 ≤ gi S so)))
            case first =>
              cases k1 : (sk == 1) with
              | false =>
                have HZ : Hid (false = true ↔ (sk = 1 ∧ 0 ≤ gi S so)) := Lib.hid ⟨fun h => (by cases h), fun h => absurd h.1 (by simpa using k1)⟩
                go_wp2
                go_meet
                case rel => exact ⟨false, rfl, rfl, HZ⟩
              | true =>
                have hk1 : sk = 1 := by simpa using k1
                obtain ⟨kk, hkk, hkn2⟩ := HSk.out.2 hk1
                subst hkk
                obtain ⟨v, hv⟩ : ∃ v, v = gi S (kk : Int) := ⟨_, rfl⟩
                have hSl : kk < S.length := by rw [HT.out.1.sp.1]; exact hkn2
                have hgs : S[kk]? = some v := by
                  rw [hv]
                  have h := List.getElem?_eq_getElem hSl
                  rw [gi_some (i := (kk : Int)) (by rw [Int.toNat_natCast]; exact h)]
                  exact h
                have cS := HCx.out.s.cell kk
                have lS := HCx.out.s.lt
                rw [ints_at _ _ hSl, (List.getElem?_eq_some_iff.1 hgs).2] at cS
                have kz1 : (kk : Int) < (n : Int) := by rw [N1.out]; omega
                have kz0 : (0 : Int) ≤ (kk : Int) := by omega
                have HV := Lib.hid hv
                clear hv hgs hSl HSk
                by_cases hv0 : 0 ≤ v
                · have e2 : decide (0 ≤ v) = true := by simpa using hv0
                  have HZ : Hid (sk = 1 ∧ 0 ≤ gi S (kk : Int)) := Lib.hid ⟨hk1, by rw [← HV.out]; exact hv0⟩
                  clear hk1
                  go_wp2
                  go_meet
                  case rel => exact ⟨true, rfl, rfl, Lib.hid ⟨fun _ => HZ.out, fun _ => rfl⟩⟩
                · have e2 : decide (0 ≤ v) = false := by simpa using hv0
                  have HZ : Hid (false = true ↔ (sk = 1 ∧ 0 ≤ gi S (kk : Int))) := Lib.hid ⟨fun h => (by cases h), fun h => absurd h.2 (by rw [← HV.out]; exact hv0)⟩
                  clear hk1
                  go_wp2
                  go_meet
                  case rel => exact ⟨false, rfl, rfl, HZ⟩
            obtain ⟨al, rfl, hwx, HAl⟩ := hcut
            rw [hwx]
            have HL0 : Hid (CB g w Bs Bn Bd n S M m W1 ∧ Blk W1 Bp 65 #[.int .i64 (k : Int), .slice xra xn xrc, .string xco, .int .i64 xro, .bool xpr, .bool xav, .int .i64 xfr] ∧ Blk W1 Bx 60 #[.int .i64 sk, .int .u64 (wdI ss 0), .int .u64 (wdI ss 1), .int .u64 (wdI ss 2), .int .u64 (wdI ss 3), .int .i64 so] ∧ (al = true ↔ (al = true ∧ ∀ (t : Nat) (s' : SymM), t < 0 → xr[t]? = some s' → t ≠ i → filledQ M s' = false))) := Lib.hid ⟨HCx.out, HPx.out, HSb.out, fun h => ⟨h, fun t s' ht => by omega⟩, fun h => h.1⟩
            clear HCx HPx HSb HW1 HBx HBxe t0 t1 t2 t3 t4 t5 tl hwx
            go_wp2
            go_loopw [11, 12] (fun va vj wr => ∃ (al' : Bool) (jj : Nat), va = .bool al' ∧ vj = .int .i64 jj ∧ jj ≤ xn ∧ Hid (CB g w Bs Bn Bd n S M m wr ∧ Blk wr Bp 65 #[.int .i64 (k : Int), .slice xra xn xrc, .string xco, .int .i64 xro, .bool xpr, .bool xav, .int .i64 xfr] ∧ Blk wr Bx 60 #[.int .i64 sk, .int .u64 (wdI ss 0), .int .u64 (wdI ss 1), .int .u64 (wdI ss 2), .int .u64 (wdI ss 3), .int .i64 so] ∧ (al' = true ↔ (al = true ∧ ∀ (t : Nat) (s' : SymM), t < jj → xr[t]? = some s' → t ≠ i → filledQ M s' = false)))) (fun _ vj _ => xn - (intOf vj).toNat)
            case atStart => exact ⟨al, 0, rfl, rfl, Nat.zero_le _, HL0⟩
            case round =>
              clear HL0
              obtain ⟨al', jj, rfl, rfl, hjj, K⟩ := hrel
              obtain ⟨d0, d1, d2, d3, d4, d5, d6⟩ := cells7g K.out.2.1
              have dl := K.out.2.1.lt
              by_cases hlt3 : jj < xn
              · obtain ⟨y, hy⟩ : ∃ y, xr[jj]? = some y := ⟨_, List.getElem?_eq_getElem (by rw [← HXn.out]; exact hlt3)⟩
                obtain ⟨b2, o2, e2, hb2, hc2, _⟩ := HXI.out.1 jj y hy
                obtain ⟨q0, q1, q2, q3, q4, q5⟩ := Sym_at (hc2.below K.out.1.b hb2)
                have hb2' := Nat.lt_of_lt_of_le hb2 K.out.1.b.size
                have v1 : (jj : Int) < (xn : Int) := by omega
                have v0 : (0 : Int) ≤ (jj : Int) := by omega
                have hym := List.mem_of_getElem? hy
                have HYk := Lib.hid (And.intro (HXI.out.2.2.1 y hym) (HXI.out.2.2.2 y hym))
                have HNx : Hid (∀ b : Bool, (b = true ↔ (al' = true ∧ (jj ≠ i → filledQ M y = false))) → (b = true ↔ (al = true ∧ ∀ (t : Nat) (s' : SymM), t < jj + 1 → xr[t]? = some s' → t ≠ i → filledQ M s' = false))) := Lib.hid (fun b hb => hb.trans (by
                  rw [K.out.2.2.2]
                  constructor
                  · rintro ⟨⟨h1, h2⟩, h3⟩
                    refine ⟨h1, fun t s' ht hs' hne => ?_⟩
                    by_cases e : t = jj
                    · subst e
                      rw [hy] at hs'; cases hs'
                      exact h3 hne
                    · exact h2 t s' (by omega) hs' hne
                  · rintro ⟨h1, h2⟩
                    exact ⟨⟨h1, fun t s' ht hs' hne => h2 t s' (by omega) hs' hne⟩, fun hne => h2 jj y (by omega) hy hne⟩))
                dsimp only at e2
                rw [e2] at d1
                have hBy : Below wr.heap.size wr (wr.alloc (.cells (symC y) 60)) := (Below.refl _ _).alloc (Nat.le_refl _) _
                have HZ4 : Hid (CB g w Bs Bn Bd n S M m (wr.alloc (.cells (symC y) 60)) ∧ Blk (wr.alloc (.cells (symC y) 60)) Bp 65 #[.int .i64 (k : Int), .slice xra xn xrc, .string xco, .int .i64 xro, .bool xpr, .bool xav, .int .i64 xfr] ∧ Blk (wr.alloc (.cells (symC y) 60)) Bx 60 #[.int .i64 sk, .int .u64 (wdI ss 0), .int .u64 (wdI ss 1), .int .u64 (wdI ss 2), .int .u64 (wdI ss 3), .int .i64 so]) := Lib.hid ⟨K.out.1.below hBy, K.out.2.1.below hBy dl, K.out.2.2.1.below hBy K.out.2.2.1.lt⟩
                have HNl := Lib.hid K.out.1.nl
                clear hy hc2 hym e2 hBy K
                obtain ⟨yk, ys, yo⟩ := y
                unfold symC at HZ4
                dsimp only at *
                cases hal : al' with
                | false =>
                  have HR := Lib.hid (HNx.out false ⟨fun h => (by cases h), fun h => by rw [hal] at h; exact h.1⟩)
                  clear HNx hal
                  go_wp2
                  go_roundw
                  case rel => exact ⟨false, jj + 1, rfl, by go_num, by omega, Lib.hid ⟨HZ4.out.1, HZ4.out.2.1, HZ4.out.2.2, HR.out⟩⟩
                  case measure => simp [intOf]; omega
                | true =>
                  have Hal := Lib.hid hal
                  clear hal
                  by_cases hji : jj = i
                  · have HR := Lib.hid (HNx.out true ⟨fun _ => ⟨Hal.out, fun h => absurd hji h⟩, fun _ => rfl⟩)
                    subst hji
                    clear HNx
                    go_wp2
                    go_roundw
                    case rel => exact ⟨true, jj + 1, rfl, by go_num, by omega, Lib.hid ⟨HZ4.out.1, HZ4.out.2.1, HZ4.out.2.2, HR.out⟩⟩
                    case measure => simp [intOf]; omega
                  · have hji2 : ((jj : Int) == (i : Int)) = false := by simp; omega
                    cases hyk : (yk == 1) with
                    | false =>
                      have HR := Lib.hid (HNx.out false ⟨fun h => (by cases h), fun h => by
                        have h1 := h.2 hji
                        unfold filledQ at h1
                        rcases HYk.out.1 with h2 | h2
                        · rw [h2] at h1; simp at h1
                        · rw [h2] at hyk; cases hyk⟩)
                      clear HNx hji
                      go_wp2
                      go_roundw
                      case rel => exact ⟨false, jj + 1, rfl, by go_num, by omega, Lib.hid ⟨HZ4.out.1, HZ4.out.2.1, HZ4.out.2.2, HR.out⟩⟩
                      case measure => simp [intOf]; omega
                    | true =>
                      have hyk1 : yk = 1 := by simpa using hyk
                      obtain ⟨yo', hyo, hyn⟩ := HYk.out.2 hyk1
                      subst hyo
                      have hml : yo' < M.length := by rw [HT.out.1.np.1]; exact hyn
                      have cN := HNl.out.cell yo'
                      have lN := HNl.out.lt
                      rw [bools_at _ _ hml] at cN
                      obtain ⟨v, hv⟩ : ∃ v, v = lv M (yo' : Int) := ⟨_, rfl⟩
                      rw [← hv] at cN
                      have HR := Lib.hid (HNx.out v ⟨fun h => ⟨Hal.out, fun _ => by unfold filledQ; rw [hyk1, ← hv, h]; rfl⟩, fun h => by
                        have h1 := h.2 hji
                        unfold filledQ at h1
                        rw [← hv] at h1
                        cases v with
                        | true => rfl
                        | false => simp at h1⟩)
                      have w1 : (yo' : Int) < (n : Int) := by rw [N1.out]; omega
                      have w0 : (0 : Int) ≤ (yo' : Int) := by omega
                      clear HNx hji hv hml hyn hyk1
                      go_wp2
                      go_roundw
                      case rel => exact ⟨v, jj + 1, rfl, by go_num, by omega, Lib.hid ⟨HZ4.out.1, HZ4.out.2.1, HZ4.out.2.2, HR.out⟩⟩
                      case measure => simp [intOf]; omega
              · obtain rfl : jj = xn := by omega
                have hin : i < jj := hlt
                have HAlo : Hid (al' = true ↔ (sk = 1 ∧ 0 ≤ gi S so ∧ AloneP M ⟨(k : Int), xra, xrc, xr, xco, xro, xpr, xav, xfr⟩ i)) := Lib.hid (by
                  rw [K.out.2.2.2, HAl.out, and_assoc]
                  refine and_congr_right fun _ => and_congr_right fun _ => ⟨fun h t s' hs' hne => h t s' (by have h9 : t < xr.length := (List.getElem?_eq_some_iff.1 hs').1; have := HXn.out; omega) hs' hne, fun h t s' _ hs' hne => h t s' hs' hne⟩)
                obtain ⟨t0, t1, t2, t3, t4, t5⟩ := cells6s K.out.2.2.1
                have tl := K.out.2.2.1.lt
                cases hal : al' with
                | false =>
                  have HR : Hid (CB g w Bs Bn Bd n S M m wr ∧ Blk wr Bp 65 #[.int .i64 (k : Int), .slice xra jj xrc, .string xco, .int .i64 xro, .bool xpr, .bool xav, .int .i64 xfr] ∧ ∀ a b, m a b = true ↔ EdgeR g S M j (i + 1) a b) := Lib.hid ⟨K.out.1, K.out.2.1, fun a b => (HEd.out a b).trans (EdgeR.no HX.out HSi.out (fun h => by
                    have := HAlo.out.2 h
                    rw [hal] at this; cases this))⟩
                  clear K HAlo hal
                  go_wp2
                  go_roundg (jj - (i + 1))
                  case rel => exact ⟨i + 1, m, by go_num, by omega, Nat.le_refl _, HR⟩
                  case measure => omega
                | true =>
                  obtain ⟨hk1, hg0, hAlo⟩ := HAlo.out.1 hal
                  obtain ⟨kk, hkk, hkn2⟩ := HSk.out.2 hk1
                  have hkkn : kk < n := by rw [N1.out]; exact hkn2
                  subst hkk
                  obtain ⟨q1, hq1⟩ : ∃ q1, q1 = k * n := ⟨_, rfl⟩
                  obtain ⟨q2, hq2⟩ : ∃ q2, q2 = k * n + kk := ⟨_, rfl⟩
                  have hq2l : q2 < nn := by rw [hq2, HNN.out]; exact mat_lt hkn' hkkn
                  have z1 : IntKind.i64.wrap ((k : Int) * (n : Int)) = (q1 : Int) := by
                    rw [show ((k : Int) * (n : Int)) = ((q1 : Nat) : Int) by rw [hq1]; exact (Int.natCast_mul k n).symm]
                    exact IntWalk.i64_in _ (by omega)
                  have z2 : IntKind.i64.wrap ((q1 : Int) + (kk : Int)) = (q2 : Int) := by
                    rw [show ((q1 : Int) + (kk : Int)) = ((q2 : Nat) : Int) by omega]
                    exact IntWalk.i64_in _ (by omega)
                  have y3 : (q2 : Int) < (nn : Int) := by omega
                  have y4 : (0 : Int) ≤ (q2 : Int) := by omega
                  have cD := K.out.1.d.cell q2
                  rw [hq2, matL_at hkn' hkkn, ← hq2] at cD
                  have lD := K.out.1.d.lt
                  have fD := K.out.1.d.frozen q2
                  have HR : Hid (CB g w Bs Bn Bd n S M (upd m k kk) (wr.setCell ⟨Bd, q2, none⟩ (.bool true)) ∧ Blk (wr.setCell ⟨Bd, q2, none⟩ (.bool true)) Bp 65 #[.int .i64 (k : Int), .slice xra jj xrc, .string xco, .int .i64 xro, .bool xpr, .bool xav, .int .i64 xfr] ∧ ∀ a b, upd m k kk a b = true ↔ EdgeR g S M j (i + 1) a b) := Lib.hid ⟨by rw [hq2]; exact K.out.1.set hkn' hkkn, K.out.2.1.other hpd _, fun a b => by
                    rw [← EdgeR.yes HX.out Hr.out HSi.out hk1 hg0 hAlo, ← HEd.out a b]
                    unfold upd
                    constructor
                    · intro h
                      split at h
                      · next e => exact .inl ⟨by rw [e.1], by rw [e.2]⟩
                      · exact .inr h
                    · rintro (⟨h1, h2⟩ | h)
                      · have h1' : a = k := by dsimp only at h1; omega
                        have h2' : b = kk := by dsimp only at h2; omega
                        rw [if_pos ⟨h1', h2'⟩]
                      · split
                        · rfl
                        · exact h⟩
                  clear K HAlo hal hk1 hg0 hAlo hq1 hq2 hkn2
                  go_wp2
                  go_roundg (jj - (i + 1))
                  case rel => exact ⟨i + 1, _, by go_num, by omega, Nat.le_refl _, HR⟩
                  case measure => omega
          · obtain rfl : i = xn := by omega
            have HR : Hid (CB g w Bs Bn Bd n S M m wr ∧ ∀ a b, m a b = true ↔ EdgeR g S M (j + 1) 0 a b) := Lib.hid ⟨K.out.1, fun a b => (K.out.2.2 a b).trans (EdgeR.next HX.out HXn.out)⟩
            clear K
            go_wp2
            go_roundw
            case rel => exact ⟨j + 1, m, by go_num, by omega, HR⟩
            case measure => simp [intOf]; omega
    · obtain rfl : j = np := by omega
      have HZ : Hid (CB g w Bs Bn Bd n S M m wr ∧ ∀ a b, m a b = true ↔ EdgeR g S M g.prods.length 0 a b) := Lib.hid ⟨K.out.1, fun a b => by rw [K.out.2 a b, N2.out]⟩
      clear K hb0
      go_upto_region 21 with fail
      exact rcircular_tail g w wr n j nn Bs Bn Bd S M m (Lib.hid ⟨HA.out.1, HA.out.2.1⟩) hn1 N1 HNN hnl (Lib.hid ⟨HT.out.1.sp, HT.out.1.np⟩) HZ _ _ (by assumption) (by assumption)
end Go.Proofs.YtodnlcbnbkkanaaGreatDoor
end
section
namespace Go.Proofs.YtodnlcbnbkkanaaGreatDoor
open Go Go.RowKit

def vast8P (p : ProdM) : Bool := decide (31 < p.right.length) || decide (200 < p.cons.size)
/-- Is a grammar more than is worked out? -/
def vast8 (g : GramM) : Bool := decide (40 < g.sorts.length) || (decide (80 < g.prods.length) || (decide (200 < g.forbid.length) || (decide (200 < g.follow.length) || g.prods.any vast8P)))

set_option maxRecDepth 100000 in
set_option maxHeartbeats 4000000 in
theorem vast8_big (g : GramM) (w : World) (h : 40 < g.sorts.length ∨ 80 < g.prods.length ∨ 200 < g.forbid.length ∨ 200 < g.follow.length) (m1 : g.sorts.length ≤ maxLen) (m2 : g.prods.length ≤ maxLen) (m3 : g.forbid.length ≤ maxLen) (m4 : g.follow.length ≤ maxLen) :
    Calls Tryz.prog 10 #[gramV g] w fun e w' => e = .returned (.bool (vast8 g)) ∧ Below w.heap.size w w' := by
  have HE : Hid (vast8 g = true) := Lib.hid (by unfold vast8; simp only [Bool.or_eq_true, decide_eq_true_eq]; rcases h with h | h | h | h <;> simp [h])
  unfold maxLen at m1 m2 m3 m4
  obtain ⟨q, hq⟩ : ∃ q, q = vast8 g := ⟨_, rfl⟩
  rw [← hq] at HE ⊢
  clear hq
  unfold gramV gramC at *
  generalize g.sorts.length = n1 at *
  generalize g.prods.length = n2 at *
  generalize g.forbid.length = n3 at *
  generalize g.follow.length = n4 at *
  by_cases h1 : 40 < n1
  · have g1 : (40 : Int) < (n1 : Int) := by omega
    go_enter Tryz.func10, Tryz.ntmps10
    go_wp2
    go_ret
    exact ⟨by rw [HE.out]; rfl, (Below.refl _ w).alloc (Nat.le_refl _) _⟩
  · have g1 : decide ((40 : Int) < (n1 : Int)) = false := by simp; omega
    by_cases h2 : 80 < n2
    · have g2 : (80 : Int) < (n2 : Int) := by omega
      clear h
      go_enter Tryz.func10, Tryz.ntmps10
      go_wp2
      go_ret
      exact ⟨by rw [HE.out]; rfl, (Below.refl _ w).alloc (Nat.le_refl _) _⟩
    · have g2 : decide ((80 : Int) < (n2 : Int)) = false := by simp; omega
      by_cases h3 : 200 < n3
      · have g3 : (200 : Int) < (n3 : Int) := by omega
        clear h
        go_enter Tryz.func10, Tryz.ntmps10
        go_wp2
        go_ret
        exact ⟨by rw [HE.out]; rfl, (Below.refl _ w).alloc (Nat.le_refl _) _⟩
      · have g3 : decide ((200 : Int) < (n3 : Int)) = false := by simp; omega
        have g4 : (200 : Int) < (n4 : Int) := by omega
        clear h
        go_enter Tryz.func10, Tryz.ntmps10
        go_wp2
        go_ret
        exact ⟨by rw [HE.out]; rfl, (Below.refl _ w).alloc (Nat.le_refl _) _⟩
set_option maxRecDepth 100000 in
set_option maxHeartbeats 4000000 in
theorem vast8_small (g : GramM) (w : World) (hg : GIn w g) (h1 : g.sorts.length ≤ 40) (h2 : g.prods.length ≤ 80) (h3 : g.forbid.length ≤ 200) (h4 : g.follow.length ≤ 200) (hp : ∀ p, p ∈ g.prods → p.right.length ≤ maxLen ∧ p.cons.size ≤ maxLen) :
    Calls Tryz.prog 10 #[gramV g] w fun e w' => e = .returned (.bool (vast8 g)) ∧ Below w.heap.size w w' := by
  have HP := Lib.hid hg.prods
  have HE : Hid (vast8 g = g.prods.any vast8P) := Lib.hid (by
    unfold vast8
    rw [decide_eq_false (by omega : ¬ 40 < g.sorts.length), decide_eq_false (by omega : ¬ 80 < g.prods.length), decide_eq_false (by omega : ¬ 200 < g.forbid.length), decide_eq_false (by omega : ¬ 200 < g.follow.length)]
    simp)
  obtain ⟨q, hq⟩ : ∃ q, q = vast8 g := ⟨_, rfl⟩
  rw [← hq] at HE ⊢
  have HQ := Lib.hid hp
  clear hq hg hp
  unfold gramV gramC at *
  obtain ⟨n1, hn1⟩ : ∃ n, n = g.sorts.length := ⟨_, rfl⟩
  obtain ⟨n2, hn2⟩ : ∃ n, n = g.prods.length := ⟨_, rfl⟩
  rw [← hn1] at h1 ⊢
  rw [← hn2] at h2 ⊢
  generalize g.forbid.length = n3 at *
  generalize g.follow.length = n4 at *
  have HN1 := Lib.hid hn1
  have HN2 := Lib.hid hn2
  have g1 : decide ((40 : Int) < (n1 : Int)) = false := by simp; omega
  have g2 : decide ((80 : Int) < (n2 : Int)) = false := by simp; omega
  have g3 : decide ((200 : Int) < (n3 : Int)) = false := by simp; omega
  have g4 : decide ((200 : Int) < (n4 : Int)) = false := by simp; omega
  clear hn1 hn2
  go_enter Tryz.func10, Tryz.ntmps10
  go_wp2
  go_loop [3] (fun i => ∃ k : Nat, i = .int .i64 k ∧ k ≤ n2 ∧ Hid (∀ (j : Nat) (x : ProdM), j < k → g.prods[j]? = some x → vast8P x = false)) (fun i => n2 - (intOf i).toNat)
  case atStart => exact ⟨0, rfl, Nat.zero_le _, Lib.hid (fun j x hj => by omega)⟩
  case round =>
    obtain ⟨k, rfl, hk, hS⟩ := hrel
    by_cases hlt : k < n2
    · obtain ⟨x, hx⟩ : ∃ x, g.prods[k]? = some x := ⟨_, List.getElem?_eq_getElem (by rw [← HN2.out]; exact hlt)⟩
      obtain ⟨b1, o1, e1, hb1, hc1, _⟩ := HP.out k x hx
      obtain ⟨hz1, hz2⟩ := HQ.out x (List.mem_of_getElem? hx)
      obtain ⟨c10, c11, c12, _, _, _, _⟩ := Prod_at hc1
      have E1 := Lib.hid e1
      clear hc1 e1
      have f1 : (k : Int) < (n2 : Int) := by omega
      unfold maxLen at hz1 hz2
      rw [E1.out]
      have HV : Hid (vast8P x = (decide (31 < x.right.length) || decide (200 < x.cons.size))) := Lib.hid rfl
      have HQ2 : Hid (vast8P x = true → q = true) := Lib.hid (fun h => by rw [HE.out, any_yes hx h])
      have HX := Lib.hid hx
      clear hx
      generalize x.right.length = m at *
      by_cases hb : 31 < m
      · have HE3 : Hid (q = true) := Lib.hid (HQ2.out (by rw [HV.out]; simp [hb]))
        have f2 : (31 : Int) < (m : Int) := by omega
        clear HP HQ hS E1 HX HV HQ2 HE
        go_wp2
        go_ret
        exact ⟨by rw [HE3.out]; rfl, (Below.refl _ w).alloc (Nat.le_refl _) _⟩
      · have f2 : decide ((31 : Int) < (m : Int)) = false := by simp; omega
        by_cases hb2 : 200 < x.cons.size
        · have HE3 : Hid (q = true) := Lib.hid (HQ2.out (by rw [HV.out]; simp [hb2]))
          have f3 : (200 : Int) < (x.cons.size : Int) := by omega
          clear HP HQ hS E1 HX HV HQ2 HE
          go_wp2
          go_ret
          exact ⟨by rw [HE3.out]; rfl, (Below.refl _ w).alloc (Nat.le_refl _) _⟩
        · have HE3 : Hid (vast8P x = false) := Lib.hid (by rw [HV.out, decide_eq_false hb, decide_eq_false hb2]; rfl)
          have f3 : decide ((200 : Int) < (x.cons.size : Int)) = false := by simp; omega
          clear HV HQ2
          go_wp2
          go_round
          case rel => exact ⟨k + 1, by go_num, by omega, Lib.hid (fun j y hj hy => by
            by_cases e : j = k
            · subst e; rw [HX.out] at hy; cases hy; exact HE3.out
            · exact hS.out j y (by omega) hy)⟩
          case measure => simp [intOf]; omega
    · obtain rfl : k = n2 := by omega
      have HE3 : Hid (q = false) := Lib.hid (by
        rw [HE.out]
        exact any_no (fun i x hx => hS.out i x (by have := (List.getElem?_eq_some_iff.1 hx).1; have := HN2.out; omega) hx))
      clear hS HP HE
      go_wp2
      go_ret
      exact ⟨by rw [HE3.out]; rfl, (Below.refl _ w).alloc (Nat.le_refl _) _⟩
/-- What a grammar that is not too vast is bound by. -/
theorem AGram.fit8 {w : World} {g : GramM} (h : AGram w g) (hv : vast8 g = false) : FitG g := by
  unfold vast8 at hv
  simp only [Bool.or_eq_false_iff, decide_eq_false_iff_not, List.any_eq_false] at hv
  obtain ⟨h1, h2, h3, h4, h6⟩ := hv
  refine ⟨⟨by omega, by omega, fun x hx => ?_, by omega, by omega, fun f hf => (h.forb f hf).at_, fun s hs => ?_⟩, h.forb, h.fol⟩
  · have := h6 x hx
    unfold vast8P at this
    simp at this
    omega
  · have := h.names s hs
    unfold maxLen at this
    omega
theorem vast8_any (g : GramM) (w : World) (h : AGram w g) : Calls Tryz.prog 10 #[gramV g] w fun e w' => e = .returned (.bool (vast8 g)) ∧ Below w.heap.size w w' := by
  by_cases hb : 40 < g.sorts.length ∨ 80 < g.prods.length ∨ 200 < g.forbid.length ∨ 200 < g.follow.length
  · exact vast8_big g w hb (Nat.le_trans h.sl h.sc) (Nat.le_trans h.pl h.pc) (Nat.le_trans h.fl h.fc) (Nat.le_trans h.wl h.wc)
  · exact vast8_small g w h.inn (by omega) (by omega) (by omega) (by omega) (fun p hp => ⟨Nat.le_trans (h.prods p hp).len (h.prods p hp).cap, (h.prods p hp).cons⟩)
end Go.Proofs.YtodnlcbnbkkanaaGreatDoor
end
section
namespace Go.Proofs.YtodnlcbnbkkanaaGreatDoor
open Go Go.RowKit

theorem cells3g {W : World} {B t : Nat} {a b c : Value} (h : Blk W B t #[a, b, c]) : W.cell? ⟨B, 0, none⟩ = some a ∧ W.cell? ⟨B, 1, none⟩ = some b ∧ W.cell? ⟨B, 2, none⟩ = some c := ⟨h.cell 0, h.cell 1, h.cell 2⟩

set_option maxRecDepth 100000 in
set_option maxHeartbeats 4000000 in
theorem rforbid_any (g : GramM) (f : ForM) (w : World) (hg : GIn w g) (hn : g.prods.length ≤ 1048576) (hr : ∀ x, x ∈ g.prods → x.right.length ≤ 1048576) (hf : FitF f) : Calls Tryz.prog 43 #[gramV g, forV f] w fun e w' => e = .returned (.bool (forbidB g f)) ∧ Below w.heap.size w w' := by
  have T := Lib.hid (TwoG.start w (gramC g) 85 (forC f))
  have hB := T.out.bl
  have HBf := Lib.hid hB
  have HG := Lib.hid hg
  have HR := Lib.hid hr
  obtain ⟨q, hq⟩ : ∃ q, q = forbidB g f := ⟨_, rfl⟩
  rw [← hq]
  unfold forbidB at hq
  obtain ⟨pa, at_, ch⟩ := f
  obtain ⟨_, ⟨hat0, hat1⟩, _⟩ := hf
  dsimp only at *
  have HQ := Lib.hid hq
  clear hq hg hr hB
  obtain ⟨n, hn'⟩ : ∃ n : Nat, n = g.prods.length := ⟨_, rfl⟩
  have HN := Lib.hid hn'
  rw [← hn'] at hn
  unfold gramV gramC forV forC at *
  dsimp only at *
  rw [← hn'] at T HBf ⊢
  clear hn'
  by_cases h1 : pa < 0
  · have HE : Hid (q = false) := Lib.hid (by rw [HQ.out]; unfold numB; rw [decide_eq_false (by omega : ¬ 0 ≤ pa)]; simp only [Bool.false_and])
    clear HQ
    go_enter Tryz.func43, Tryz.ntmps43
    go_wp2
    go_ret
    exact ⟨by rw [HE.out]; rfl, HBf.out⟩
  · have d1 : decide (pa < 0) = false := by simpa using h1
    by_cases h2 : (n : Int) ≤ pa
    · have HE : Hid (q = false) := Lib.hid (by rw [HQ.out, ← HN.out]; unfold numB; rw [decide_eq_false (by omega : ¬ pa < (n : Int))]; simp only [Bool.false_and, Bool.and_false])
      have d2 : decide ((n : Int) ≤ pa) = true := by simpa using h2
      clear HQ h1 h2
      go_enter Tryz.func43, Tryz.ntmps43
      go_wp2
      go_ret
      exact ⟨by rw [HE.out]; rfl, HBf.out⟩
    · have d2 : decide ((n : Int) ≤ pa) = false := by simpa using h2
      by_cases h3 : ch < 0
      · have HE : Hid (q = false) := Lib.hid (by rw [HQ.out]; unfold numB; rw [decide_eq_false (by omega : ¬ 0 ≤ ch)]; simp only [Bool.false_and, Bool.and_false])
        clear HQ h1 h2
        go_enter Tryz.func43, Tryz.ntmps43
        go_wp2
        go_ret
        exact ⟨by rw [HE.out]; rfl, HBf.out⟩
      · have d3 : decide (ch < 0) = false := by simpa using h3
        by_cases h4 : (n : Int) ≤ ch
        · have HE : Hid (q = false) := Lib.hid (by rw [HQ.out, ← HN.out]; unfold numB; rw [decide_eq_false (by omega : ¬ ch < (n : Int))]; simp only [Bool.false_and, Bool.and_false])
          have d4 : decide ((n : Int) ≤ ch) = true := by simpa using h4
          clear HQ h1 h2 h3 h4
          go_enter Tryz.func43, Tryz.ntmps43
          go_wp2
          go_ret
          exact ⟨by rw [HE.out]; rfl, HBf.out⟩
        · have d4 : decide ((n : Int) ≤ ch) = false := by simpa using h4
          obtain ⟨i, rfl⟩ : ∃ i : Nat, pa = i := ⟨pa.toNat, by omega⟩
          obtain ⟨j, rfl⟩ : ∃ i : Nat, ch = i := ⟨ch.toNat, by omega⟩
          have hi : i < n := by omega
          have hj : j < n := by omega
          obtain ⟨P, hP⟩ : ∃ x, g.prods[i]? = some x := ⟨_, List.getElem?_eq_getElem (by rw [← HN.out]; exact hi)⟩
          obtain ⟨C, hC⟩ : ∃ x, g.prods[j]? = some x := ⟨_, List.getElem?_eq_getElem (by rw [← HN.out]; exact hj)⟩
          have HQ2 : Hid (q = standB P at_ C) := Lib.hid (by rw [HQ.out, ← HN.out, Int.toNat_natCast, Int.toNat_natCast, hP, hC]; unfold numB; simp [hi, hj])
          obtain ⟨b1, o1, e1, hb1, hc1, hi1⟩ := HG.out.prods i P hP
          obtain ⟨b2, o2, e2, hb2, hc2, _⟩ := HG.out.prods j C hC
          obtain rfl : b1 = b2 := by rw [e1] at e2; simpa using congrArg (fun a => a.map (·.block)) e2
          obtain rfl : o1 = o2 := by rw [e1] at e2; simpa using congrArg (fun a => a.map (·.off)) e2
          have hPl := HR.out P (List.mem_of_getElem? hP)
          obtain ⟨x0, x1, _, x3, _, _, _⟩ := Prod_at (hc1.below T.out.bl hb1)
          obtain ⟨y0, _, _, y3, _, _, _⟩ := Prod_at (hc2.below T.out.bl hb1)
          have hb1' := Nat.lt_of_lt_of_le hb1 T.out.bl.size
          have z1 : (i : Int) < (n : Int) := by omega
          have z2 : (j : Int) < (n : Int) := by omega
          have HI1 := Lib.hid hi1
          rw [e1] at T x0 x1 x3 y0 y3 hb1' ⊢
          clear HQ hP hC hc1 hc2 e1 e2 hi1 h1 h2 h3 h4
          obtain ⟨c0, c1, c2, c3, c4⟩ := cells5' T.out.b0
          obtain ⟨p0, p1, p2⟩ := cells3g T.out.b1
          have l0 := T.out.b0.lt
          have l1 := T.out.b1.lt
          obtain ⟨W, hW⟩ : ∃ W, W = (w.alloc (.cells #[.slice g.sa g.sorts.length g.sc, .slice (some ⟨b1, o1, none⟩) n g.pc, .int .i64 g.start, .slice g.fa g.forbid.length g.fc, .slice g.wa g.follow.length g.wc] 27)).alloc (.cells #[.int .i64 (i : Int), .int .i64 at_, .int .i64 (j : Int)] 85) := ⟨_, rfl⟩
          rw [← hW] at c0 c1 c2 c3 c4 p0 p1 p2 l0 l1 x0 x1 x3 y0 y3 hb1' T
          have HW := Lib.hid hW
          clear hW HBf
          have HBf := Lib.hid T.out.bl
          by_cases h5 : P.role = 11
          · have HE : Hid (q = false) := Lib.hid (by rw [HQ2.out]; unfold standB; simp [h5])
            have k5 : (P.role == 11) = true := by simpa using h5
            clear HQ2 h5
            go_enter Tryz.func43, Tryz.ntmps43
            go_upto_region 1 with fail
            rw [← HW.out]
            go_wp2
            go_ret
            exact ⟨by rw [HE.out]; rfl, HBf.out⟩
          · have k5 : (P.role == 11) = false := by simpa using h5
            by_cases h6 : C.role = 11
            · have HE : Hid (q = false) := Lib.hid (by rw [HQ2.out]; unfold standB; simp [h6])
              have k6 : (C.role == 11) = true := by simpa using h6
              clear HQ2 h5 h6
              go_enter Tryz.func43, Tryz.ntmps43
              go_upto_region 1 with fail
              rw [← HW.out]
              go_wp2
              go_ret
              exact ⟨by rw [HE.out]; rfl, HBf.out⟩
            · have k6 : (C.role == 11) = false := by simpa using h6
              by_cases h7 : at_ < 1
              · have HE : Hid (q = false) := Lib.hid (by rw [HQ2.out]; unfold standB numB; rw [decide_eq_false (by omega : ¬ 0 ≤ at_ - 1)]; simp only [Bool.false_and, Bool.and_false])
                have k7 : decide (at_ < 1) = true := by simpa using h7
                clear HQ2 h5 h6 h7
                go_enter Tryz.func43, Tryz.ntmps43
                go_upto_region 1 with fail
                rw [← HW.out]
                go_wp2
                go_region
                go_wp2
                go_ret
                exact ⟨by rw [HE.out]; rfl, HBf.out.drew⟩
              · have k7 : decide (at_ < 1) = false := by simpa using h7
                by_cases h8 : (P.right.length : Int) < at_
                · have HE : Hid (q = false) := Lib.hid (by rw [HQ2.out]; unfold standB numB; rw [decide_eq_false (by omega : ¬ at_ - 1 < (P.right.length : Int))]; simp only [Bool.false_and, Bool.and_false])
                  have k8 : decide ((P.right.length : Int) < at_) = true := by simpa using h8
                  clear HQ2 h5 h6 h7 h8
                  go_enter Tryz.func43, Tryz.ntmps43
                  go_upto_region 1 with fail
                  rw [← HW.out]
                  go_wp2
                  go_region
                  go_wp2
                  go_ret
                  exact ⟨by rw [HE.out]; rfl, HBf.out.drew⟩
                · have k8 : decide ((P.right.length : Int) < at_) = false := by simpa using h8
                  obtain ⟨k, rfl⟩ : ∃ k : Nat, at_ = (k : Int) + 1 := ⟨(at_ - 1).toNat, by omega⟩
                  obtain ⟨s, hs⟩ : ∃ s, P.right[k]? = some s := ⟨_, List.getElem?_eq_getElem (by omega)⟩
                  have HQ3 : Hid (q = (s.kind == 1 && s.sort == C.left)) := Lib.hid (by rw [HQ2.out]; unfold standB numB; rw [k5, k6, show ((k : Int) + 1 - 1) = (k : Int) by omega, Int.toNat_natCast, hs]; simp; intro _ _; omega)
                  obtain ⟨b3, o3, e3, hb3, hc3, _⟩ := HI1.out k s hs
                  obtain ⟨s0, s1, s2, s3, s4, s5⟩ := Sym_at (hc3.below HBf.out hb3)
                  have hb3' := Nat.lt_of_lt_of_le hb3 HBf.out.size
                  have z3 : (k : Int) < (P.right.length : Int) := by omega
                  have d5 : decide (n ≤ i) = false := by simp; omega
                  have d6 : decide (n ≤ j) = false := by simp; omega
                  rw [e3] at x1
                  clear HQ2 h5 h6 h7 h8 hs hc3 e3 hat0 hat1
                  cases k9 : (s.kind == 1) with
                  | false =>
                    have HQ4 : Hid (q = false) := Lib.hid (by rw [HQ3.out, k9]; rfl)
                    clear HQ3
                    go_enter Tryz.func43, Tryz.ntmps43
                    go_upto_region 1 with fail
                    rw [← HW.out]
                    go_wp2
                    go_region
                    have z4 : IntKind.i64.wrap ((k : Int) + 1 - 1) = (k : Int) := by rw [show ((k : Int) + 1 - 1) = (k : Int) by omega]; exact IntWalk.i64_in _ (by omega)
                    have z5 : IntKind.i64.wrap (k : Int) = (k : Int) := IntWalk.i64_in _ (by omega)
                    go_wp2
                    go_region
                    go_wp2
                    go_region
                    go_wp2
                    go_ret
                    exact ⟨by rw [HQ4.out]; try rfl, (HBf.out.drew.alloc HBf.out.size _).drew.drew⟩
                  | true =>
                    have HQ4 : Hid (q = (s.sort == C.left)) := Lib.hid (by rw [HQ3.out, k9]; rfl)
                    clear HQ3
                    go_enter Tryz.func43, Tryz.ntmps43
                    go_upto_region 1 with fail
                    rw [← HW.out]
                    go_wp2
                    go_region
                    have z4 : IntKind.i64.wrap ((k : Int) + 1 - 1) = (k : Int) := by rw [show ((k : Int) + 1 - 1) = (k : Int) by omega]; exact IntWalk.i64_in _ (by omega)
                    have z5 : IntKind.i64.wrap (k : Int) = (k : Int) := IntWalk.i64_in _ (by omega)
                    go_wp2
                    go_region
                    go_wp2
                    go_region
                    go_wp2
                    go_ret
                    exact ⟨by rw [HQ4.out]; try rfl, (HBf.out.drew.alloc HBf.out.size _).drew.drew⟩
end Go.Proofs.YtodnlcbnbkkanaaGreatDoor
end
section
namespace Go.Vals
open Go

section
variable {P : Program} {ops : Array Oper} {N : World → World → Prop} {F : Array Value} {loose : List Tmp} {p : Tmp → Value → World → Prop} {S : World → Prop} {ds : List Deferred} {o : Oper} {l : List Oper}

/-- A call that hands back something of which only p is known. -/
theorem Each.callMakes (d : Tmp) (f : FuncId) (args : Array Value) (hs : noSel o = true) (hl : (o.looksAt ops).all (fun t => !loose.contains t) = true) (hd : o.dst = some d) (hm : loose.contains d = true) (hw : Region.wanted o (yielded ops F) = true)
    (he : ∀ w ds, (execOp (Act.eval ⟨F, ds⟩) o).run P w = .ok (.enter f args) w) (hc : ∀ w, S w → Calls P f args w fun e w' => ∃ v, e = .returned v ∧ N w w' ∧ p d v w')
    (hr : Each P ops N (Kn F loose p) S ds l) : Each P ops N (Kn F loose p) S ds (o :: l) :=
  ⟨fun a w _ hS hk => does_at (noSel_spec hs) hl hk (.inr ⟨hw, by
    have := he w a.defers
    show Gives P N _ o w ((execOp (Act.eval ⟨F, a.defers⟩) o).run P w)
    rw [this]
    exact (hc w hS).mono fun e w' ⟨v, h1, h2, h3⟩ => ⟨v, h1, h2, fun d' hd' => by rw [hd] at hd'; cases hd'; exact .inl ⟨by simpa using hm, h3⟩⟩⟩), hr⟩

/-- A call with two arguments, of the second of which only p is known. -/
theorem Each.callLoose2 (d t0 t : Tmp) (x0 v : Value) (f : FuncId) (hd : o.dst = some d) (hm : loose.contains d = false) (hl : (o.looksAt ops).contains t = true) (hl0 : ((o.looksAt ops).filter fun u => !loose.contains u).contains t0 = true) (hlo : loose.contains t = true)
    (hx0 : F[t0]? = some x0) (hw : Region.wanted o (yielded ops F) = true) (hg : guardIn ops o ((o.looksAt ops).filter fun u => !loose.contains u) = true) (hv : F[d]? = some v)
    (he : ∀ w a, (execOp (Act.eval a) o).run P w = .ok (.enter f #[a.eval (.tmp t0), a.eval (.tmp t)]) w) (hc : ∀ w x, S w → p t x w → Calls P f #[x0, x] w fun e w' => e = .returned v ∧ N w w')
    (hr : Each P ops N (Kn F loose p) S ds l) : Each P ops N (Kn F loose p) S ds (o :: l) := by
  have known : ∀ (a : Act) (w : World), Knows (Kn F loose p) (o.looksAt ops) a w → ∀ u ∈ (o.looksAt ops).filter (fun u => !loose.contains u), a.tmps[u]? = F[u]? := fun a w hk u hu => by
    obtain ⟨h1, h2⟩ := List.mem_filter.1 hu
    obtain ⟨x, hx, hK⟩ := hk u h1
    rcases hK with ⟨hm, _⟩ | ⟨_, hK⟩
    · simp [hm] at h2
    · rw [hx, hK]
  refine ⟨fun a w _ hS hk => .inr ⟨(wanted_same hg fun u hu => known a w hk u hu).trans hw, ?_⟩, hr⟩
  have h0 := known a w hk t0 (by simpa using hl0)
  obtain ⟨x, hx, hK⟩ := hk t (by simpa using hl)
  have hp : p t x w := by
    rcases hK with ⟨_, h⟩ | ⟨h, _⟩
    · exact h
    · exact absurd (by simpa using hlo) h
  rw [he, show a.eval (.tmp t) = x by simp [Act.eval, hx], show a.eval (.tmp t0) = x0 by simp [Act.eval, h0, hx0]]
  exact (hc w x hS hp).mono fun e w' hh => ⟨v, hh.1, hh.2, puts_at hd hm hv⟩

theorem putL_on : ∀ (l : List Tmp) (F T : Array Value), T.size = F.size → (∀ t, t < F.size → t ∉ l → T[t]? = F[t]?) → T = putL F (l.map some) (l.map fun t => T.getD t undef) := by
  intro l
  induction l with
  | nil =>
    intro F T hs h
    simp only [List.map_nil, putL]
    apply Array.ext hs
    intro i h1 h2
    have := h i h2 (by simp)
    simpa [h1, h2] using this
  | cons u l ih =>
    intro F T hs h
    simp only [List.map_cons, putL]
    refine ih _ T (by simpa using hs) fun t ht hn => ?_
    by_cases e : t = u
    · subst e
      have hlt : t < F.size := by simpa using ht
      rw [Array.getElem?_setIfInBounds_self_of_lt hlt]
      simp [Array.getD, hs, hlt]
    · rw [Array.getElem?_setIfInBounds_ne (fun h => e h.symm)]
      exact h t (by simpa using ht) (by simp [e, hn])
theorem loose_eq {F T : Array Value} {l : List Tmp} {p : Tmp → Value → World → Prop} {w : World} (hT : T.size = F.size) (hk : ∀ t < F.size, ∃ v, T[t]? = some v ∧ Kn F l p t v w) : T = putL F (l.map some) (l.map fun t => T.getD t undef) := by
  refine putL_on l F T hT fun t ht hn => ?_
  obtain ⟨v, hv, hK⟩ := hk t ht
  rcases hK with ⟨hm, _⟩ | ⟨_, hK⟩
  · exact absurd hm hn
  · rw [hv, hK]
end
end Go.Vals
end
