import Derived.Deep.CutBlock
import Derived.Test.YtodnlcbnbkkanaaGreatDoorO12
section
namespace Go.Proofs.YtodnlcbnbkkanaaGreatDoor
open Go Go.RowKit Go.Vals

set_option maxRecDepth 100000 in
set_option maxHeartbeats 16000000 in
theorem lawOrder_any (g : GramM) (w : World) (hg : AGram w g) (hT : TabAt 1 Lib.deBruijn64tab w) : Calls Tryz.prog 9 #[gramV g] w fun e w' => e = .returned (.bool true) ∧ Below w.heap.size w w' := by
  have HWk := Lib.hid (fun W (hW : Below w.heap.size w W) => works_any W (tab_below hT hW))
  have HEr : Hid (∀ (m : Int) (W : World), Calls Tryz.prog 25 #[.int .i64 m] W fun e w' => e = .returned (.int .i64 m) ∧ W = w') := Lib.hid (fun m W => errno_any m W)
  obtain ⟨va, hva⟩ : ∃ va, va = vast8 (gN g) := ⟨_, rfl⟩
  obtain ⟨ck, hck⟩ : ∃ ck, ck = checkB (gN g) := ⟨_, rfl⟩
  have HVa : Hid (∀ W, Below w.heap.size w W → Calls Tryz.prog 10 #[.agg #[.slice g.sa g.sorts.length g.sc, .slice g.pa g.prods.length g.pc, .int .i64 g.start, .slice none 0 0, .slice g.wa g.follow.length g.wc]] W fun e w' => e = .returned (.bool va) ∧ Below W.heap.size W w') := Lib.hid (fun W hW => by rw [hva]; exact vast8_any (gN g) W (hg.gN.below hW))
  have HCk : Hid (va = false → ∀ W, Below w.heap.size w W → Calls Tryz.prog 38 #[.agg #[.slice g.sa g.sorts.length g.sc, .slice g.pa g.prods.length g.pc, .int .i64 g.start, .slice none 0 0, .slice g.wa g.follow.length g.wc]] W fun e w' => e = .returned (.int .i64 (errI ck)) ∧ Below W.heap.size W w') := Lib.hid (fun h W hW => by rw [hck]; exact check_any (gN g) W (hg.gN.inn.below hW) (hg.gN.fit8 (hva.symm.trans h)))
  have HAs : Hid (va = false → ck = true → g.prods.length ≤ 40 → Asks g w g.sorts.length) := Lib.hid (fun h1 h2 h3 => asks_of g w hg hT (hg.gN.fit8 (hva.symm.trans h1)) (hck.symm.trans h2) h3)
  have HSz : Hid (va = false → g.sorts.length ≤ 40) := Lib.hid (fun h1 => by
    have h := hva.symm.trans h1
    unfold vast8 at h
    simp only [Bool.or_eq_false_iff, decide_eq_false_iff_not] at h
    exact Nat.le_of_not_lt h.1)
  have HG := Lib.hid hg.inn
  have HB1 : Hid (Below w.heap.size w (w.alloc (.cells #[.slice g.sa g.sorts.length g.sc, .slice g.pa g.prods.length g.pc, .int .i64 g.start, .slice none 0 0, .slice g.wa g.follow.length g.wc] 27))) := Lib.hid ((Below.refl _ _).alloc (Nat.le_refl _) _)
  have HG1 : Hid (Blk (w.alloc (.cells #[.slice g.sa g.sorts.length g.sc, .slice g.pa g.prods.length g.pc, .int .i64 g.start, .slice none 0 0, .slice g.wa g.follow.length g.wc] 27)) w.heap.size 27 #[.slice g.sa g.sorts.length g.sc, .slice g.pa g.prods.length g.pc, .int .i64 g.start, .slice none 0 0, .slice g.wa g.follow.length g.wc]) := Lib.hid (Blk.new w 27 _)
  have hpl : g.prods.length ≤ 9223372036854775807 := Nat.le_trans hg.pl hg.pc
  clear hg hT hva hck
  unfold gramV gramC at *
  go_enter Tryz.func9, Tryz.ntmps9
  go_upto_region 2 with fail
  obtain ⟨W1, hW1⟩ : ∃ W1, W1 = w.alloc (.cells #[.slice g.sa g.sorts.length g.sc, .slice g.pa g.prods.length g.pc, .int .i64 g.start, .slice none 0 0, .slice g.wa g.follow.length g.wc] 27) := ⟨_, rfl⟩
  rw [← hW1] at HB1 HG1 ⊢
  clear hW1
  obtain ⟨c0, c1, c2, c3, c4⟩ := cells5s HG1.out
  have l0 := HG1.out.lt
  go_wp2_with fail
  with_reducible refine (HVa.out _ HB1.out).mono ?_
  rintro e w2 ⟨rfl, hB2⟩
  have HB2 := Lib.hid (HB1.out.trans (hB2.mono HB1.out.size))
  have HG2 := Lib.hid (HG1.out.below hB2 HG1.out.lt)
  clear hB2 HB1 HG1 HVa c0 c1 c2 c3 c4 l0
  obtain ⟨c0, c1, c2, c3, c4⟩ := cells5s HG2.out
  have l0 := HG2.out.lt
  cases va with
  | true =>
    go_wp2_with fail
    with_reducible refine (HWk.out _ HB2.out).mono ?_
    rintro e w3 ⟨rfl, hB⟩
    have HBz := Lib.hid (HB2.out.trans (hB.mono HB2.out.size))
    clear hB
    go_wp2
    go_ret
    exact ⟨rfl, HBz.out⟩
  | false =>
    by_cases hp : 40 < g.prods.length
    · have e1 : decide (40 < (g.prods.length : Int)) = true := by simp; omega
      go_wp2_with fail
      with_reducible refine (HWk.out _ HB2.out).mono ?_
      rintro e w3 ⟨rfl, hB⟩
      have HBz := Lib.hid (HB2.out.trans (hB.mono HB2.out.size))
      clear hB
      go_wp2
      go_ret
      exact ⟨rfl, HBz.out⟩
    · have e1 : decide (40 < (g.prods.length : Int)) = false := by simp; omega
      go_wp2_with fail
      with_reducible refine (HCk.out (by trivial) _ HB2.out).mono ?_
      rintro e w3 ⟨rfl, hB3⟩
      have HB3 := Lib.hid (HB2.out.trans (hB3.mono HB2.out.size))
      have HG3 := Lib.hid (HG2.out.below hB3 HG2.out.lt)
      clear hB3 HB2 HG2 HCk c0 c1 c2 c3 c4 l0
      obtain ⟨c0, c1, c2, c3, c4⟩ := cells5s HG3.out
      have l0 := HG3.out.lt
      go_wp2_with fail
      with_reducible refine (HEr.out _ _).mono ?_
      rintro e w' ⟨rfl, rfl⟩
      cases ck with
      | false =>
        have e2 : ((errI false) != 0) = true := by decide
        go_wp2_with fail
        with_reducible refine (HWk.out _ HB3.out).mono ?_
        rintro e w4 ⟨rfl, hB⟩
        have HBz := Lib.hid (HB3.out.trans (hB.mono HB3.out.size))
        clear hB
        go_wp2
        go_ret
        exact ⟨rfl, HBz.out⟩
      | true =>
        have e2 : ((errI true) != 0) = false := by decide
        have HA := Lib.hid (HAs.out (by trivial) (by trivial) (by omega))
        have hs := HSz.out (by trivial)
        clear HAs HSz
        have HI := Lib.hid (OL.start HB3.out HG3.out)
        obtain ⟨Bh, hBh⟩ : ∃ Bh, Bh = w3.heap.size := ⟨_, rfl⟩
        have HBh := Lib.hid hBh
        have hne : Bh ≠ w.heap.size := by omega
        have hne' : w.heap.size ≠ Bh := by omega
        rw [← hBh] at HI
        clear hBh
        go_upto_block 1 with fail
        rw [← HBh.out]
        clear HB3 HG3 c0 c1 c2 c3 c4 l0 e1 e2
        go_wp2
        go_loopw [4] (fun vi wr => ∃ (k : Nat) (v : Value), vi = .int .i64 ((k : Int) - 1) ∧ k ≤ g.prods.length ∧ Hid (OL g w Bh k v wr)) (fun vi _ => (intOf vi + 1).toNat)
        case atStart => exact ⟨g.prods.length, .slice none 0 0, rfl, Nat.le_refl _, HI⟩
        case round =>
          clear HI
          obtain ⟨k, v, rfl, hk, HI⟩ := hrel
          cases k with
          | zero =>
            obtain ⟨pa, pc, rfl, hrow⟩ := OL.row HI.out HG.out.prods
            have HR : Hid (∀ W, Below wr.heap.size wr W → RowProd W pa (dbl g.prods 0)) := Lib.hid (fun W hW => RowProd.below hrow hW)
            clear hrow
            have C0 : Hid (∀ W, Below w.heap.size w W → Calls Tryz.prog 22 #[.agg #[.slice g.sa g.sorts.length g.sc, .slice g.pa g.prods.length g.pc, .int .i64 g.start, .slice none 0 0, .slice g.wa g.follow.length g.wc]] W (GoodSets W g.sorts.length (FirstP (gN g)))) := Lib.hid HA.out.first
            have C1 : Hid (∀ W, Below w.heap.size w W → Below wr.heap.size wr W → Calls Tryz.prog 22 #[.agg #[.slice g.sa g.sorts.length g.sc, .slice pa (dbl g.prods 0).length pc, .int .i64 g.start, .slice none 0 0, .slice g.wa g.follow.length g.wc]] W (GoodSets W g.sorts.length (FirstP (gN g)))) := Lib.hid (fun W hW hR => HA.out.firstT pa pc W hW (HR.out W hR))
            have C2 : Hid (∀ W, Below w.heap.size w W → Calls Tryz.prog 23 #[.agg #[.slice g.sa g.sorts.length g.sc, .slice g.pa g.prods.length g.pc, .int .i64 g.start, .slice none 0 0, .slice g.wa g.follow.length g.wc]] W (GoodSets W g.sorts.length (FollowP (gN g)))) := Lib.hid HA.out.follow
            have C3 : Hid (∀ W, Below w.heap.size w W → Below wr.heap.size wr W → Calls Tryz.prog 23 #[.agg #[.slice g.sa g.sorts.length g.sc, .slice pa (dbl g.prods 0).length pc, .int .i64 g.start, .slice none 0 0, .slice g.wa g.follow.length g.wc]] W (GoodSets W g.sorts.length (FollowP (gN g)))) := Lib.hid (fun W hW hR => HA.out.followT pa pc W hW (HR.out W hR))
            have C4 : Hid (∀ W, Below w.heap.size w W → Calls Tryz.prog 28 #[.agg #[.slice g.sa g.sorts.length g.sc, .slice g.pa g.prods.length g.pc, .int .i64 g.start, .slice none 0 0, .slice g.wa g.follow.length g.wc]] W (GoodInts W g.sorts.length (ShortP (gN g)))) := Lib.hid HA.out.short
            have C5 : Hid (∀ W, Below w.heap.size w W → Below wr.heap.size wr W → Calls Tryz.prog 28 #[.agg #[.slice g.sa g.sorts.length g.sc, .slice pa (dbl g.prods 0).length pc, .int .i64 g.start, .slice none 0 0, .slice g.wa g.follow.length g.wc]] W (GoodInts W g.sorts.length (ShortP (gN g)))) := Lib.hid (fun W hW hR => HA.out.shortT pa pc W hW (HR.out W hR))
            have C6 : Hid (∀ W, Below w.heap.size w W → Calls Tryz.prog 16 #[.agg #[.slice g.sa g.sorts.length g.sc, .slice g.pa g.prods.length g.pc, .int .i64 g.start, .slice none 0 0, .slice g.wa g.follow.length g.wc]] W (GoodMarks W g.sorts.length (CircP (gN g)))) := Lib.hid HA.out.circ
            have C7 : Hid (∀ W, Below w.heap.size w W → Below wr.heap.size wr W → Calls Tryz.prog 16 #[.agg #[.slice g.sa g.sorts.length g.sc, .slice pa (dbl g.prods 0).length pc, .int .i64 g.start, .slice none 0 0, .slice g.wa g.follow.length g.wc]] W (GoodMarks W g.sorts.length (CircP (gN g)))) := Lib.hid (fun W hW hR => HA.out.circT pa pc W hW (HR.out W hR))
            have HS : Hid (∀ S, ShortP (gN g) S → ∀ k : Nat, k < g.sorts.length → 0 ≤ gi S k → gi S k ≤ 2000 → ∀ W, Below w.heap.size w W → Calls Tryz.prog 29 #[.agg #[.slice g.sa g.sorts.length g.sc, .slice g.pa g.prods.length g.pc, .int .i64 g.start, .slice none 0 0, .slice g.wa g.follow.length g.wc], .int .i64 (k : Int)] W (GoodSamp W (gN g) k)) := Lib.hid HA.out.samp
            have HST : Hid (∀ S, ShortP (gN g) S → ∀ k : Nat, k < g.sorts.length → 0 ≤ gi S k → gi S k ≤ 2000 → ∀ W, Below w.heap.size w W → Below wr.heap.size wr W → Calls Tryz.prog 29 #[.agg #[.slice g.sa g.sorts.length g.sc, .slice pa (dbl g.prods 0).length pc, .int .i64 g.start, .slice none 0 0, .slice g.wa g.follow.length g.wc], .int .i64 (k : Int)] W (GoodSamp W (gN g) k)) := Lib.hid (fun S hS k hk h0 h1 W hW hR => HA.out.sampT S hS k hk h0 h1 pa pc W hW (HR.out W hR))
            have HIz := Lib.hid (And.intro HI.out (Below.refl wr.heap.size wr))
            clear HA HR HI
            go_upto_region 10 with fail
            obtain ⟨c0, c1, c2, c3, c4⟩ := cells5s HIz.out.1.b0
            have l0 := HIz.out.1.b0.lt
            go_wp2_with fail
            with_reducible refine (C0.out _ HIz.out.1.low).mono ?_
            rintro e W0 ⟨F0, B0, cc0, cs0, hP, hl, rfl, hb, hat, hB⟩
            have HP0 := Lib.hid (And.intro hP (And.intro hl hat))
            have HO0 := Lib.hid (And.intro (HIz.out.1.on hB) (HIz.out.2.trans (hB.mono HIz.out.2.size)))
            have L0 := Lib.hid hb
            clear hP hl hat hb hB HIz c0 c1 c2 c3 c4 l0 C0
            obtain ⟨c0, c1, c2, c3, c4⟩ := cells5s HO0.out.1.b1
            have l0 := HO0.out.1.b1.lt
            go_wp2_with fail
            with_reducible refine (C1.out _ HO0.out.1.low HO0.out.2).mono ?_
            rintro e W1 ⟨F1, B1, cc1, cs1, hP, hl, rfl, hb, hat, hB⟩
            have HP1 := Lib.hid (And.intro hP (And.intro hl hat))
            have HO1 := Lib.hid (And.intro (HO0.out.1.on hB) (HO0.out.2.trans (hB.mono HO0.out.2.size)))
            have L0 := Lib.hid (L0.out.below hB L0.out.lt)
            have L1 := Lib.hid hb
            clear hP hl hat hb hB HO0 c0 c1 c2 c3 c4 l0 C1
            obtain ⟨c0, c1, c2, c3, c4⟩ := cells5s HO1.out.1.b0
            have l0 := HO1.out.1.b0.lt
            go_wp2_with fail
            with_reducible refine (C2.out _ HO1.out.1.low).mono ?_
            rintro e W2 ⟨F2, B2, cc2, cs2, hP, hl, rfl, hb, hat, hB⟩
            have HP2 := Lib.hid (And.intro hP (And.intro hl hat))
            have HO2 := Lib.hid (And.intro (HO1.out.1.on hB) (HO1.out.2.trans (hB.mono HO1.out.2.size)))
            have L0 := Lib.hid (L0.out.below hB L0.out.lt)
            have L1 := Lib.hid (L1.out.below hB L1.out.lt)
            have L2 := Lib.hid hb
            clear hP hl hat hb hB HO1 c0 c1 c2 c3 c4 l0 C2
            obtain ⟨c0, c1, c2, c3, c4⟩ := cells5s HO2.out.1.b1
            have l0 := HO2.out.1.b1.lt
            go_wp2_with fail
            with_reducible refine (C3.out _ HO2.out.1.low HO2.out.2).mono ?_
            rintro e W3 ⟨F3, B3, cc3, cs3, hP, hl, rfl, hb, hat, hB⟩
            have HP3 := Lib.hid (And.intro hP (And.intro hl hat))
            have HO3 := Lib.hid (And.intro (HO2.out.1.on hB) (HO2.out.2.trans (hB.mono HO2.out.2.size)))
            have L0 := Lib.hid (L0.out.below hB L0.out.lt)
            have L1 := Lib.hid (L1.out.below hB L1.out.lt)
            have L2 := Lib.hid (L2.out.below hB L2.out.lt)
            have L3 := Lib.hid hb
            clear hP hl hat hb hB HO2 c0 c1 c2 c3 c4 l0 C3
            obtain ⟨c0, c1, c2, c3, c4⟩ := cells5s HO3.out.1.b0
            have l0 := HO3.out.1.b0.lt
            go_wp2_with fail
            with_reducible refine (C4.out _ HO3.out.1.low).mono ?_
            rintro e W4 ⟨F4, B4, cc4, hP, hl, rfl, hb, hB⟩
            have HP4 := Lib.hid (And.intro hP hl)
            have HO4 := Lib.hid (And.intro (HO3.out.1.on hB) (HO3.out.2.trans (hB.mono HO3.out.2.size)))
            have L0 := Lib.hid (L0.out.below hB L0.out.lt)
            have L1 := Lib.hid (L1.out.below hB L1.out.lt)
            have L2 := Lib.hid (L2.out.below hB L2.out.lt)
            have L3 := Lib.hid (L3.out.below hB L3.out.lt)
            have L4 := Lib.hid hb
            clear hP hl hb hB HO3 c0 c1 c2 c3 c4 l0 C4
            obtain ⟨c0, c1, c2, c3, c4⟩ := cells5s HO4.out.1.b1
            have l0 := HO4.out.1.b1.lt
            go_wp2_with fail
            with_reducible refine (C5.out _ HO4.out.1.low HO4.out.2).mono ?_
            rintro e W5 ⟨F5, B5, cc5, hP, hl, rfl, hb, hB⟩
            have HP5 := Lib.hid (And.intro hP hl)
            have HO5 := Lib.hid (And.intro (HO4.out.1.on hB) (HO4.out.2.trans (hB.mono HO4.out.2.size)))
            have L0 := Lib.hid (L0.out.below hB L0.out.lt)
            have L1 := Lib.hid (L1.out.below hB L1.out.lt)
            have L2 := Lib.hid (L2.out.below hB L2.out.lt)
            have L3 := Lib.hid (L3.out.below hB L3.out.lt)
            have L4 := Lib.hid (L4.out.belowN hB)
            have L5 := Lib.hid hb
            clear hP hl hb hB HO4 c0 c1 c2 c3 c4 l0 C5
            obtain ⟨c0, c1, c2, c3, c4⟩ := cells5s HO5.out.1.b0
            have l0 := HO5.out.1.b0.lt
            go_wp2_with fail
            with_reducible refine (C6.out _ HO5.out.1.low).mono ?_
            rintro e W6 ⟨F6, B6, hP, hl, rfl, hb, hB⟩
            have HP6 := Lib.hid (And.intro hP hl)
            have HO6 := Lib.hid (And.intro (HO5.out.1.on hB) (HO5.out.2.trans (hB.mono HO5.out.2.size)))
            have L0 := Lib.hid (L0.out.below hB L0.out.lt)
            have L1 := Lib.hid (L1.out.below hB L1.out.lt)
            have L2 := Lib.hid (L2.out.below hB L2.out.lt)
            have L3 := Lib.hid (L3.out.below hB L3.out.lt)
            have L4 := Lib.hid (L4.out.belowN hB)
            have L5 := Lib.hid (L5.out.belowN hB)
            have L6 := Lib.hid hb
            clear hP hl hb hB HO5 c0 c1 c2 c3 c4 l0 C6
            obtain ⟨c0, c1, c2, c3, c4⟩ := cells5s HO6.out.1.b1
            have l0 := HO6.out.1.b1.lt
            go_wp2_with fail
            with_reducible refine (C7.out _ HO6.out.1.low HO6.out.2).mono ?_
            rintro e W7 ⟨F7, B7, hP, hl, rfl, hb, hB⟩
            have HP7 := Lib.hid (And.intro hP hl)
            have HO7 := Lib.hid (And.intro (HO6.out.1.on hB) (HO6.out.2.trans (hB.mono HO6.out.2.size)))
            have L0 := Lib.hid (L0.out.below hB L0.out.lt)
            have L1 := Lib.hid (L1.out.below hB L1.out.lt)
            have L2 := Lib.hid (L2.out.below hB L2.out.lt)
            have L3 := Lib.hid (L3.out.below hB L3.out.lt)
            have L4 := Lib.hid (L4.out.belowN hB)
            have L5 := Lib.hid (L5.out.belowN hB)
            have L6 := Lib.hid (L6.out.below hB L6.out.lt)
            have L7 := Lib.hid hb
            clear hP hl hb hB HO6 c0 c1 c2 c3 c4 l0 C7
            obtain ⟨c0, c1, c2, c3, c4⟩ := cells5s HO7.out.1.b0
            have l0 := HO7.out.1.b0.lt
            go_wp2_with (go_at_call 25; (with_reducible refine (HEr.out _ _).mono ?_); rintro e w' ⟨rfl, rfl⟩)
            obtain rfl := HP0.out.1.unique HP1.out.1
            obtain rfl := HP2.out.1.unique HP3.out.1
            obtain rfl := HP4.out.1.unique HP5.out.1
            obtain rfl := circ_one HP6.out.1 HP7.out.1
            have HL0 : Hid (Below W7.heap.size W7 W7) := Lib.hid (Below.refl _ _)
            clear c0 c1 c2 c3 c4 l0
            go_loopw [21] (fun vi wq => ∃ k : Nat, vi = .int .i64 k ∧ k ≤ g.sorts.length ∧ Hid (Below W7.heap.size W7 wq)) (fun vi _ => g.sorts.length - (intOf vi).toNat)
            case atStart => exact ⟨0, rfl, Nat.zero_le _, HL0⟩
            case round =>
              clear HL0
              obtain ⟨k, rfl, hkn, K⟩ := hrel
              by_cases hlt : k < g.sorts.length
              · have hlt0 := Lib.hid (And.intro HP0.out.2.1 (And.intro HP2.out.2.1 (And.intro HP4.out.2 HP6.out.2)))
                obtain ⟨s, hs0⟩ : ∃ s, F0[k]? = some s := ⟨_, List.getElem?_eq_getElem (by rw [hlt0.out.1]; exact hlt)⟩
                obtain ⟨t, ht0⟩ : ∃ t, F2[k]? = some t := ⟨_, List.getElem?_eq_getElem (by rw [hlt0.out.2.1]; exact hlt)⟩
                obtain ⟨m, hm0⟩ : ∃ m, F4[k]? = some m := ⟨_, List.getElem?_eq_getElem (by rw [hlt0.out.2.2.1]; exact hlt)⟩
                have hk6 : k < F6.length := by rw [hlt0.out.2.2.2]; exact hlt
                obtain ⟨q, hq⟩ : ∃ q, q = lv F6 (k : Int) := ⟨_, rfl⟩
                have k0 := L0.out.below K.out L0.out.lt
                have k1 := L1.out.below K.out L1.out.lt
                have k2 := L2.out.below K.out L2.out.lt
                have k3 := L3.out.below K.out L3.out.lt
                have k6 := L6.out.below K.out L6.out.lt
                have k7 := L7.out.below K.out L7.out.lt
                obtain ⟨a0, a1, a2, a3⟩ := set_at4 k0 (HP0.out.2.2 k s hs0)
                obtain ⟨b0, b1, b2, b3⟩ := set_at4 k1 (HP1.out.2.2 k s hs0)
                obtain ⟨d0, d1, d2, d3⟩ := set_at4 k2 (HP2.out.2.2 k t ht0)
                obtain ⟨e0, e1, e2, e3⟩ := set_at4 k3 (HP3.out.2.2 k t ht0)
                obtain ⟨i4, l4⟩ := int_at1 (L4.out.belowN K.out) hm0
                obtain ⟨i5, l5⟩ := int_at1 (L5.out.belowN K.out) hm0
                have j6 := (k6.cell k).trans (bools_at F6 k hk6)
                have j7 := (k7.cell k).trans (bools_at F6 k hk6)
                rw [← hq] at j6 j7
                have la := k0.lt
                have lb := k1.lt
                have ld := k2.lt
                have le := k3.lt
                have l6 := k6.lt
                have l7 := k7.lt
                have z1 : (k : Int) < (g.sorts.length : Int) := by omega
                have z0 : (0 : Int) ≤ (k : Int) := by omega
                have hE1 := eq_sets s s
                have hE2 := eq_sets t t
                rw [beq_self_eq_true] at hE1 hE2
                have HZ : Hid (∀ j, Below W7.heap.size W7 (wr.drewN j)) := Lib.hid (fun j => below_drewN K.out j)
                have HM4 := Lib.hid (gi_nat' hm0)
                have HOK := Lib.hid (HO7.out.1.on K.out)
                clear hs0 ht0 hm0 hk6 hq k0 k1 k2 k3 k6 k7 K hlt0
                go_wp2
                go_quiet (fail)
                by_cases hm : 0 ≤ m ∧ m ≤ 2000
                · obtain ⟨hm1, hm2⟩ := hm
                  have HSa := Lib.hid (HS.out F4 HP4.out.1 k hlt (by rw [HM4.out]; exact hm1) (by rw [HM4.out]; exact hm2))
                  have HSb := Lib.hid (HST.out F4 HP4.out.1 k hlt (by rw [HM4.out]; exact hm1) (by rw [HM4.out]; exact hm2))
                  have f1 : decide ((0 : Int) ≤ m) = true := by simpa using hm1
                  have f2 : decide (m ≤ (2000 : Int)) = true := by simpa using hm2
                  go_upto_region 26 with fail
                  have HZq := Lib.hid (HZ.out nq)
                  have HOq : Hid (OL g w Bh 0 (.slice pa (dbl g.prods 0).length pc) (wr.drewN nq)) := Lib.hid (HO7.out.1.on HZq.out)
                  obtain ⟨wd, hwd⟩ : ∃ wd, wd = wr.drewN nq := ⟨_, rfl⟩
                  rw [← hwd] at HZq HOq ⊢
                  clear hwd HZ HOK f1 f2 hm1 hm2 a0 a1 a2 a3 b0 b1 b2 b3 d0 d1 d2 d3 e0 e1 e2 e3 i4 i5 j6 j7 la lb ld le l4 l5 l6 l7 hE1 hE2
                  obtain ⟨c0, c1, c2, c3, c4⟩ := cells5s HOq.out.b0
                  have l0 := HOq.out.b0.lt
                  go_wp2_with fail
                  with_reducible refine (HSa.out _ HOq.out.low).mono ?_
                  rintro e V1 ⟨t1, hT1, rfl, hB1⟩
                  have HT1 := Lib.hid hT1
                  have HZ1 := Lib.hid (HZq.out.trans (hB1.mono HZq.out.size))
                  have HO1 := Lib.hid (HOq.out.on hB1)
                  clear hT1 hB1 c0 c1 c2 c3 c4 l0 HZq HOq HSa
                  obtain ⟨c0, c1, c2, c3, c4⟩ := cells5s HO1.out.b1
                  have l0 := HO1.out.b1.lt
                  go_wp2_with fail
                  with_reducible refine (HSb.out _ HO1.out.low (HO7.out.2.trans (HZ1.out.mono HO7.out.2.size))).mono ?_
                  rintro e V2 ⟨t2, hT2, rfl, hB2⟩
                  obtain rfl := HT1.out.unique hT2
                  have HZ2 := Lib.hid (HZ1.out.trans (hB2.mono HZ1.out.size))
                  clear hT2 hB2 c0 c1 c2 c3 c4 l0 HZ1 HO1 HSb
                  go_wp2_with (go_at_call 25; (with_reducible refine (HEr.out _ _).mono ?_); rintro e w' ⟨rfl, rfl⟩)
                  go_roundw
                  case rel => exact ⟨k + 1, by go_num, by omega, HZ2⟩
                  case measure => simp [intOf]; omega
                · by_cases hm1 : 0 ≤ m
                  · have f1 : decide ((0 : Int) ≤ m) = true := by simpa using hm1
                    have f2 : decide (m ≤ (2000 : Int)) = false := by simp; omega
                    clear hm hm1
                    go_wp2
                    go_roundw
                    case rel => exact ⟨k + 1, by go_num, by omega, Lib.hid (HZ.out _)⟩
                    case measure => simp [intOf]; omega
                  · have f1 : decide ((0 : Int) ≤ m) = false := by simpa using hm1
                    clear hm hm1
                    go_wp2
                    go_roundw
                    case rel => exact ⟨k + 1, by go_num, by omega, Lib.hid (HZ.out _)⟩
                    case measure => simp [intOf]; omega
              · obtain rfl : g.sorts.length = k := by omega
                have HBK := Lib.hid (HO7.out.1.low.trans (K.out.mono HO7.out.1.low.size))
                clear K
                go_wp2_with fail
                with_reducible refine (HWk.out _ HBK.out).mono ?_
                rintro e wb ⟨rfl, hB⟩
                have HBz := Lib.hid (HBK.out.trans (hB.mono HBK.out.size))
                clear hB
                go_wp2
                go_ret
                exact ⟨rfl, HBz.out⟩
          | succ k =>
            obtain ⟨x, hx⟩ : ∃ x, g.prods[k]? = some x := ⟨_, List.getElem?_eq_getElem (by omega)⟩
            rw [show (((k + 1 : Nat) : Int) - 1) = (k : Int) by omega]
            obtain ⟨pb, po, epa, hpb, hpc, _⟩ := HG.out.prods k x hx
            have hk' : k < g.prods.length := by omega
            have hm : (dbl g.prods (k + 1)).length ≤ 1000 := by rw [dbl_len _ _ (by omega)]; omega
            have HI0 : OL g w Bh (k + 1) v wr.drew := HI.out.on (Below.refl _ _).drew
            obtain ⟨G, cap, w7, hrun, hown7, hgrow⟩ := HI0.app x hm 23
            have HP := Lib.hid (HI0.push hx hown7 hgrow)
            have h7 := HI0.reads hgrow
            have HL : Hid (∀ W, (∃ k', k' < 3 ∧ W = four wr.drew (wr.drew.alloc (.cells (prodC x ++ prodC x) 65)) w7 (w7.setCell ⟨Bh, 1, none⟩ (.slice (some ⟨G, 0, none⟩) ((dbl g.prods (k + 1)).length + 2) cap)) k') → W.cell? ⟨Bh, 1, none⟩ = some v ∧ W.cell? ⟨w.heap.size, 1, none⟩ = some (.slice (some ⟨pb, po, none⟩) g.prods.length g.pc) ∧ CellsAt W pb (po + k * 7) (prodC x)) := Lib.hid (fun W hW => by
              have key : wr.drew.grownBy W v.ownBlock := by
                rcases four_lt hW with rfl | rfl | rfl
                · exact World.grownBy.refl _ _
                · exact World.grownBy_alloc _ _ _
                · exact hgrow
              obtain ⟨r1, r2, _, _, r5⟩ := HI0.reads key
              rw [epa] at r2
              exact ⟨r1, r2, hpc.below r5 hpb⟩)
            have h0 : (0 : Int) ≤ (k : Int) := by omega
            clear epa hpb hpc hown7 hgrow HI0 HI hx hm
            go_upto_region 9 with fail
            refine wp_region_chain [12, 13, 15] 15 (four wr.drew (wr.drew.alloc (.cells (prodC x ++ prodC x) 65)) w7 (w7.setCell ⟨Bh, 1, none⟩ (.slice (some ⟨G, 0, none⟩) ((dbl g.prods (k + 1)).length + 2) cap)))
              [.pointer (some ⟨Bh, 1, none⟩), v, .pointer (some ⟨w.heap.size, 1, none⟩), .slice (some ⟨pb, po, none⟩) g.prods.length g.pc, .int .i64 (k : Nat), .pointer (some ⟨pb, po + k * 7, none⟩), .agg (prodC x), .pointer (some ⟨w.heap.size, 1, none⟩), .slice (some ⟨pb, po, none⟩) g.prods.length g.pc, .int .i64 (k : Nat), .pointer (some ⟨pb, po + k * 7, none⟩), .agg (prodC x), .slice (some ⟨wr.drew.heap.size, 0, none⟩) 2 2, .slice (some ⟨G, 0, none⟩) ((dbl g.prods (k + 1)).length + 2) cap, .pointer (some ⟨Bh, 1, none⟩), undef]
              #[.agg #[.slice g.sa g.sorts.length g.sc, .slice g.pa g.prods.length g.pc, .int .i64 g.start, .slice g.fa g.forbid.length g.fc, .slice g.wa g.follow.length g.wc], .pointer (some ⟨w.heap.size, 0, none⟩), .bool false, .pointer (some ⟨Bh, 0, none⟩), .int .i64 (k : Nat), undef, undef, undef, undef, undef, undef, undef, undef, undef, undef, undef, undef, undef, undef, undef, undef, undef, undef, undef, undef, undef, .pointer (some ⟨w.heap.size, 3, none⟩), .agg #[.slice g.sa g.sorts.length g.sc, .slice g.pa g.prods.length g.pc, .int .i64 g.start, .slice none 0 0, .slice g.wa g.follow.length g.wc], .bool false, .bool false, .pointer (some ⟨w.heap.size, 1, none⟩), .slice g.pa g.prods.length g.pc, .int .i64 (g.prods.length : Nat), .bool false, .bool false, .bool false, .agg #[.slice g.sa g.sorts.length g.sc, .slice g.pa g.prods.length g.pc, .int .i64 g.start, .slice none 0 0, .slice g.wa g.follow.length g.wc], .int .i64 (errI true), .int .i64 (errI true), .bool false, .bool false, undef, .agg #[.slice g.sa g.sorts.length g.sc, .slice g.pa g.prods.length g.pc, .int .i64 g.start, .slice none 0 0, .slice g.wa g.follow.length g.wc], .pointer (some ⟨Bh, 1, none⟩), .pointer (some ⟨w.heap.size, 1, none⟩), .slice g.pa g.prods.length g.pc, .int .i64 (g.prods.length : Nat), .int .i64 ((g.prods.length : Nat) - 1), .int .i64 (k : Nat), .bool true, u50, u51, .pointer (some ⟨Bh, 1, none⟩), v, .pointer (some ⟨w.heap.size, 1, none⟩), .slice (some ⟨pb, po, none⟩) g.prods.length g.pc, .int .i64 (k : Nat), .pointer (some ⟨pb, po + k * 7, none⟩), .agg (prodC x), .pointer (some ⟨w.heap.size, 1, none⟩), .slice (some ⟨pb, po, none⟩) g.prods.length g.pc, .int .i64 (k : Nat), .pointer (some ⟨pb, po + k * 7, none⟩), .agg (prodC x), .slice (some ⟨wr.drew.heap.size, 0, none⟩) 2 2, .slice (some ⟨G, 0, none⟩) ((dbl g.prods (k + 1)).length + 2) cap, .pointer (some ⟨Bh, 1, none⟩), undef, undef, undef, undef, undef, undef, undef, undef, undef, undef, undef, undef, undef, undef, undef, undef, undef, undef, undef, undef, undef, undef, undef, undef, undef, undef, undef, undef, undef, undef, undef, undef, undef, undef, undef, undef, undef, undef, undef, undef, undef, undef, undef, undef, undef, undef, undef, undef, undef, undef, undef, undef, undef, undef, undef, undef, undef, undef, undef, undef, undef, undef, undef, undef, undef, undef, undef, undef, undef, undef, undef, undef, undef, undef, undef, undef, undef, undef, undef, undef, undef, undef, undef, undef, undef, undef, undef, undef, undef, undef, undef, undef, undef, undef, undef, undef, undef, undef, undef, undef, undef, undef, undef, undef, undef, undef, undef, undef, undef, undef, undef, undef, undef, undef, undef, undef, undef, undef, undef, undef, undef, undef, undef, undef, undef, undef, undef, undef, undef, undef, undef, undef, undef, undef, undef, undef, undef, undef, undef, undef, undef, undef, undef, undef, undef, undef, undef, undef, undef, undef, undef, undef, undef, undef, undef, undef, undef, undef, undef, undef, undef, undef, undef, undef, undef, undef, undef, undef, undef, undef, undef, undef, undef, undef, undef, undef, undef, undef, undef, undef, undef, undef, undef, undef, undef, undef, undef, undef, undef, undef, undef, undef, undef, undef, undef, undef, undef, undef, undef, undef, undef, undef, undef, undef, undef]
              rfl (by kernel_rfl) (by kernel_rfl) (by kernel_rfl) (by kernel_rfl) (by kernel_rfl) (by kernel_rfl) rfl ?_ ?_ _ rfl ?_
            · exact ⟨⟨_, rfl, Turns.val (.slice (some ⟨wr.drew.heap.size, 0, none⟩) 2 2) (by kernel_rfl) (by kernel_rfl) rfl (by kernel_rfl) (bs23 rfl (by kernel_rfl) (by kernel_rfl))⟩, ⟨⟨_, rfl, Turns.val (.slice (some ⟨G, 0, none⟩) ((dbl g.prods (k + 1)).length + 2) cap) (by kernel_rfl) (by kernel_rfl) rfl (by kernel_rfl) (ap_of rfl (by kernel_rfl) (by kernel_rfl) hrun)⟩, ⟨⟨_, rfl, Turns.skip (by kernel_rfl) (by kernel_rfl) rfl (st23 rfl (by kernel_rfl) (by kernel_rfl) h7.1 h7.2.2.1 h7.2.2.2.1)⟩, trivial⟩⟩⟩
            · refine EachS.one (Each.val 52 (.pointer (some ⟨Bh, 1, none⟩)) (by kernel_rfl) (by kernel_rfl) (by kernel_rfl) (fun _ => rfl) (fun W hS _ => fa27_1 rfl (by kernel_rfl)) trivial) ?_
              refine EachS.one (Each.val 53 v (by kernel_rfl) (by kernel_rfl) (by kernel_rfl) (fun _ => rfl) (fun W hS _ => ld23 rfl (by kernel_rfl) ((HL.out W hS).1)) trivial) ?_
              refine EachS.one (Each.val 54 (.pointer (some ⟨w.heap.size, 1, none⟩)) (by kernel_rfl) (by kernel_rfl) (by kernel_rfl) (fun _ => rfl) (fun W hS _ => fa27_1 rfl (by kernel_rfl)) trivial) ?_
              refine EachS.one (Each.val 55 (.slice (some ⟨pb, po, none⟩) g.prods.length g.pc) (by kernel_rfl) (by kernel_rfl) (by kernel_rfl) (fun _ => rfl) (fun W hS _ => ld23 rfl (by kernel_rfl) ((HL.out W hS).2.1)) trivial) ?_
              refine EachS.one (Each.val 56 (.int .i64 (k : Nat)) (by kernel_rfl) (by kernel_rfl) (by kernel_rfl) (fun _ => rfl) (fun _ _ _ => by kernel_rfl) trivial) ?_
              refine EachS.one (Each.val 57 (.pointer (some ⟨pb, po + k * 7, none⟩)) (by kernel_rfl) (by kernel_rfl) (by kernel_rfl) (fun _ => rfl) (fun W hS _ => ix23 (c := g.pc) rfl (by kernel_rfl) (by kernel_rfl) (hk') rfl) trivial) ?_
              refine EachS.one (Each.val 58 (.agg (prodC x)) (by kernel_rfl) (by kernel_rfl) (by kernel_rfl) (fun _ => rfl) (fun W hS _ => ld65 rfl (by kernel_rfl) ((HL.out W hS).2.2)) trivial) ?_
              refine EachS.one (Each.val 59 (.pointer (some ⟨w.heap.size, 1, none⟩)) (by kernel_rfl) (by kernel_rfl) (by kernel_rfl) (fun _ => rfl) (fun W hS _ => fa27_1 rfl (by kernel_rfl)) trivial) ?_
              refine EachS.one (Each.val 60 (.slice (some ⟨pb, po, none⟩) g.prods.length g.pc) (by kernel_rfl) (by kernel_rfl) (by kernel_rfl) (fun _ => rfl) (fun W hS _ => ld23 rfl (by kernel_rfl) ((HL.out W hS).2.1)) trivial) ?_
              refine EachS.one (Each.val 61 (.int .i64 (k : Nat)) (by kernel_rfl) (by kernel_rfl) (by kernel_rfl) (fun _ => rfl) (fun _ _ _ => by kernel_rfl) trivial) ?_
              refine EachS.one (Each.val 62 (.pointer (some ⟨pb, po + k * 7, none⟩)) (by kernel_rfl) (by kernel_rfl) (by kernel_rfl) (fun _ => rfl) (fun W hS _ => ix23 (c := g.pc) rfl (by kernel_rfl) (by kernel_rfl) (hk') rfl) trivial) ?_
              refine EachS.one (Each.val 63 (.agg (prodC x)) (by kernel_rfl) (by kernel_rfl) (by kernel_rfl) (fun _ => rfl) (fun W hS _ => ld65 rfl (by kernel_rfl) ((HL.out W hS).2.2)) trivial) ?_
              refine EachS.skip (by decide) ?_
              refine EachS.skip (by decide) ?_
              refine EachS.one (Each.val 66 (.pointer (some ⟨Bh, 1, none⟩)) (by kernel_rfl) (by kernel_rfl) (by kernel_rfl) (fun _ => rfl) (fun W hS _ => fa27_1 rfl (by kernel_rfl)) trivial) ?_
              refine EachS.skip (by decide) ?_
              exact trivial
            · go_wp2
              go_roundw
              case rel => exact ⟨k, _, rfl, Nat.le_of_lt (Nat.lt_of_succ_le hk), HP⟩
              case measure => simp [intOf]
end Go.Proofs.YtodnlcbnbkkanaaGreatDoor
end
