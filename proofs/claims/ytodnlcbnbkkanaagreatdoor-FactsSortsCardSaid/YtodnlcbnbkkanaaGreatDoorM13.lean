import Derived.RegionTactic
import Derived.BigRegion
import Derived.IntWalk
import Derived.Deep.DeepCutAuto
import Derived.StillTailTactics
import Derived.Test.YtodnlcbnbkkanaaGreatDoorM1
import Derived.Test.YtodnlcbnbkkanaaGreatDoorM3
import Derived.Test.YtodnlcbnbkkanaaGreatDoorM5
import Derived.Test.YtodnlcbnbkkanaaGreatDoorM6
section
namespace Go.Proofs.YtodnlcbnbkkanaaGreatDoor
open Go Go.RowKit

theorem cells3g {W : World} {B t : Nat} {a b c : Value} (h : Blk W B t #[a, b, c]) : W.cell? ⟨B, 0, none⟩ = some a ∧ W.cell? ⟨B, 1, none⟩ = some b ∧ W.cell? ⟨B, 2, none⟩ = some c := ⟨h.cell 0, h.cell 1, h.cell 2⟩

set_option maxRecDepth 100000 in
set_option maxHeartbeats 4000000 in
theorem rforbid_any (g : GramM) (f : ForM) (w : World) (hg : GIn w g) (hn : g.prods.length ≤ 1048576) (hr : ∀ x, x ∈ g.prods → x.right.length ≤ 1048576) (hf : FitF f) : Calls Tryz.prog 43 #[gramV g, forV f] w fun e w' => e = .returned (.bool (forbidB g f)) ∧ Below w.heap.size w w' := by
  have T := Lib.hid (TwoG.start w (gramC g) 85 (forC f))
  have hB := T.out.bl
  have HBf := Lib.hid hB
  have HG := Lib.hid hg
  have HR := Lib.hid hr
  obtain ⟨q, hq⟩ : ∃ q, q = forbidB g f := ⟨_, rfl⟩
  rw [← hq]
  unfold forbidB at hq
  obtain ⟨pa, at_, ch⟩ := f
  obtain ⟨_, ⟨hat0, hat1⟩, _⟩ := hf
  dsimp only at *
  have HQ := Lib.hid hq
  clear hq hg hr hB
  obtain ⟨n, hn'⟩ : ∃ n : Nat, n = g.prods.length := ⟨_, rfl⟩
  have HN := Lib.hid hn'
  rw [← hn'] at hn
  unfold gramV gramC forV forC at *
  dsimp only at *
  rw [← hn'] at T HBf ⊢
  clear hn'
  by_cases h1 : pa < 0
  · have HE : Hid (q = false) := Lib.hid (by rw [HQ.out]; unfold numB; rw [decide_eq_false (by omega : ¬ 0 ≤ pa)]; simp only [Bool.false_and])
    clear HQ
    go_enter Tryz.func43, Tryz.ntmps43
    go_wp2
    go_ret
    exact ⟨by rw [HE.out]; rfl, HBf.out⟩
  · have d1 : decide (pa < 0) = false := by simpa using h1
    by_cases h2 : (n : Int) ≤ pa
    · have HE : Hid (q = false) := Lib.hid (by rw [HQ.out, ← HN.out]; unfold numB; rw [decide_eq_false (by omega : ¬ pa < (n : Int))]; simp only [Bool.false_and, Bool.and_false])
      have d2 : decide ((n : Int) ≤ pa) = true := by simpa using h2
      clear HQ h1 h2
      go_enter Tryz.func43, Tryz.ntmps43
      go_wp2
      go_ret
      exact ⟨by rw [HE.out]; rfl, HBf.out⟩
    · have d2 : decide ((n : Int) ≤ pa) = false := by simpa using h2
      by_cases h3 : ch < 0
      · have HE : Hid (q = false) := Lib.hid (by rw [HQ.out]; unfold numB; rw [decide_eq_false (by omega : ¬ 0 ≤ ch)]; simp only [Bool.false_and, Bool.and_false])
        clear HQ h1 h2
        go_enter Tryz.func43, Tryz.ntmps43
        go_wp2
        go_ret
        exact ⟨by rw [HE.out]; rfl, HBf.out⟩
      · have d3 : decide (ch < 0) = false := by simpa using h3
        by_cases h4 : (n : Int) ≤ ch
        · have HE : Hid (q = false) := Lib.hid (by rw [HQ.out, ← HN.out]; unfold numB; rw [decide_eq_false (by omega : ¬ ch < (n : Int))]; simp only [Bool.false_and, Bool.and_false])
          have d4 : decide ((n : Int) ≤ ch) = true := by simpa using h4
          clear HQ h1 h2 h3 h4
          go_enter Tryz.func43, Tryz.ntmps43
          go_wp2
          go_ret
          exact ⟨by rw [HE.out]; rfl, HBf.out⟩
        · have d4 : decide ((n : Int) ≤ ch) = false := by simpa using h4
          obtain ⟨i, rfl⟩ : ∃ i : Nat, pa = i := ⟨pa.toNat, by omega⟩
          obtain ⟨j, rfl⟩ : ∃ i : Nat, ch = i := ⟨ch.toNat, by omega⟩
          have hi : i < n := by omega
          have hj : j < n := by omega
          obtain ⟨P, hP⟩ : ∃ x, g.prods[i]? = some x := ⟨_, List.getElem?_eq_getElem (by rw [← HN.out]; exact hi)⟩
          obtain ⟨C, hC⟩ : ∃ x, g.prods[j]? = some x := ⟨_, List.getElem?_eq_getElem (by rw [← HN.out]; exact hj)⟩
          have HQ2 : Hid (q = standB P at_ C) := Lib.hid (by rw [HQ.out, ← HN.out, Int.toNat_natCast, Int.toNat_natCast, hP, hC]; unfold numB; simp [hi, hj])
          obtain ⟨b1, o1, e1, hb1, hc1, hi1⟩ := HG.out.prods i P hP
          obtain ⟨b2, o2, e2, hb2, hc2, _⟩ := HG.out.prods j C hC
          obtain rfl : b1 = b2 := by rw [e1] at e2; simpa using congrArg (fun a => a.map (·.block)) e2
          obtain rfl : o1 = o2 := by rw [e1] at e2; simpa using congrArg (fun a => a.map (·.off)) e2
          have hPl := HR.out P (List.mem_of_getElem? hP)
          obtain ⟨x0, x1, _, x3, _, _, _⟩ := Prod_at (hc1.below T.out.bl hb1)
          obtain ⟨y0, _, _, y3, _, _, _⟩ := Prod_at (hc2.below T.out.bl hb1)
          have hb1' := Nat.lt_of_lt_of_le hb1 T.out.bl.size
          have z1 : (i : Int) < (n : Int) := by omega
          have z2 : (j : Int) < (n : Int) := by omega
          have HI1 := Lib.hid hi1
          rw [e1] at T x0 x1 x3 y0 y3 hb1' ⊢
          clear HQ hP hC hc1 hc2 e1 e2 hi1 h1 h2 h3 h4
          obtain ⟨c0, c1, c2, c3, c4⟩ := cells5' T.out.b0
          obtain ⟨p0, p1, p2⟩ := cells3g T.out.b1
          have l0 := T.out.b0.lt
          have l1 := T.out.b1.lt
          obtain ⟨W, hW⟩ : ∃ W, W = (w.alloc (.cells #[.slice g.sa g.sorts.length g.sc, .slice (some ⟨b1, o1, none⟩) n g.pc, .int .i64 g.start, .slice g.fa g.forbid.length g.fc, .slice g.wa g.follow.length g.wc] 27)).alloc (.cells #[.int .i64 (i : Int), .int .i64 at_, .int .i64 (j : Int)] 85) := ⟨_, rfl⟩
          rw [← hW] at c0 c1 c2 c3 c4 p0 p1 p2 l0 l1 x0 x1 x3 y0 y3 hb1' T
          have HW := Lib.hid hW
          clear hW HBf
          have HBf := Lib.hid T.out.bl
          by_cases h5 : P.role = 11
          · have HE : Hid (q = false) := Lib.hid (by rw [HQ2.out]; unfold standB; simp [h5])
            have k5 : (P.role == 11) = true := by simpa using h5
            clear HQ2 h5
            go_enter Tryz.func43, Tryz.ntmps43
            go_upto_region 1 with fail
            rw [← HW.out]
            go_wp2
            go_ret
            exact ⟨by rw [HE.out]; rfl, HBf.out⟩
          · have k5 : (P.role == 11) = false := by simpa using h5
            by_cases h6 : C.role = 11
            · have HE : Hid (q = false) := Lib.hid (by rw [HQ2.out]; unfold standB; simp [h6])
              have k6 : (C.role == 11) = true := by simpa using h6
              clear HQ2 h5 h6
              go_enter Tryz.func43, Tryz.ntmps43
              go_upto_region 1 with fail
              rw [← HW.out]
              go_wp2
              go_ret
              exact ⟨by rw [HE.out]; rfl, HBf.out⟩
            · have k6 : (C.role == 11) = false := by simpa using h6
              by_cases h7 : at_ < 1
              · have HE : Hid (q = false) := Lib.hid (by rw [HQ2.out]; unfold standB numB; rw [decide_eq_false (by omega : ¬ 0 ≤ at_ - 1)]; simp only [Bool.false_and, Bool.and_false])
                have k7 : decide (at_ < 1) = true := by simpa using h7
                clear HQ2 h5 h6 h7
                go_enter Tryz.func43, Tryz.ntmps43
                go_upto_region 1 with fail
                rw [← HW.out]
                go_wp2
                go_region
                go_wp2
                go_ret
                exact ⟨by rw [HE.out]; rfl, HBf.out.drew⟩
              · have k7 : decide (at_ < 1) = false := by simpa using h7
                by_cases h8 : (P.right.length : Int) < at_
                · have HE : Hid (q = false) := Lib.hid (by rw [HQ2.out]; unfold standB numB; rw [decide_eq_false (by omega : ¬ at_ - 1 < (P.right.length : Int))]; simp only [Bool.false_and, Bool.and_false])
                  have k8 : decide ((P.right.length : Int) < at_) = true := by simpa using h8
                  clear HQ2 h5 h6 h7 h8
                  go_enter Tryz.func43, Tryz.ntmps43
                  go_upto_region 1 with fail
                  rw [← HW.out]
                  go_wp2
                  go_region
                  go_wp2
                  go_ret
                  exact ⟨by rw [HE.out]; rfl, HBf.out.drew⟩
                · have k8 : decide ((P.right.length : Int) < at_) = false := by simpa using h8
                  obtain ⟨k, rfl⟩ : ∃ k : Nat, at_ = (k : Int) + 1 := ⟨(at_ - 1).toNat, by omega⟩
                  obtain ⟨s, hs⟩ : ∃ s, P.right[k]? = some s := ⟨_, List.getElem?_eq_getElem (by omega)⟩
                  have HQ3 : Hid (q = (s.kind == 1 && s.sort == C.left)) := Lib.hid (by rw [HQ2.out]; unfold standB numB; rw [k5, k6, show ((k : Int) + 1 - 1) = (k : Int) by omega, Int.toNat_natCast, hs]; simp; intro _ _; omega)
                  obtain ⟨b3, o3, e3, hb3, hc3, _⟩ := HI1.out k s hs
                  obtain ⟨s0, s1, s2, s3, s4, s5⟩ := Sym_at (hc3.below HBf.out hb3)
                  have hb3' := Nat.lt_of_lt_of_le hb3 HBf.out.size
                  have z3 : (k : Int) < (P.right.length : Int) := by omega
                  have d5 : decide (n ≤ i) = false := by simp; omega
                  have d6 : decide (n ≤ j) = false := by simp; omega
                  rw [e3] at x1
                  clear HQ2 h5 h6 h7 h8 hs hc3 e3 hat0 hat1
                  cases k9 : (s.kind == 1) with
                  | false =>
                    have HQ4 : Hid (q = false) := Lib.hid (by rw [HQ3.out, k9]; rfl)
                    clear HQ3
                    go_enter Tryz.func43, Tryz.ntmps43
                    go_upto_region 1 with fail
                    rw [← HW.out]
                    go_wp2
                    go_region
                    have z4 : IntKind.i64.wrap ((k : Int) + 1 - 1) = (k : Int) := by rw [show ((k : Int) + 1 - 1) = (k : Int) by omega]; exact IntWalk.i64_in _ (by omega)
                    have z5 : IntKind.i64.wrap (k : Int) = (k : Int) := IntWalk.i64_in _ (by omega)
                    go_wp2
                    go_region
                    go_wp2
                    go_region
                    go_wp2
                    go_ret
                    exact ⟨by rw [HQ4.out]; try rfl, (HBf.out.drew.alloc HBf.out.size _).drew.drew⟩
                  | true =>
                    have HQ4 : Hid (q = (s.sort == C.left)) := Lib.hid (by rw [HQ3.out, k9]; rfl)
                    clear HQ3
                    go_enter Tryz.func43, Tryz.ntmps43
                    go_upto_region 1 with fail
                    rw [← HW.out]
                    go_wp2
                    go_region
                    have z4 : IntKind.i64.wrap ((k : Int) + 1 - 1) = (k : Int) := by rw [show ((k : Int) + 1 - 1) = (k : Int) by omega]; exact IntWalk.i64_in _ (by omega)
                    have z5 : IntKind.i64.wrap (k : Int) = (k : Int) := IntWalk.i64_in _ (by omega)
                    go_wp2
                    go_region
                    go_wp2
                    go_region
                    go_wp2
                    go_ret
                    exact ⟨by rw [HQ4.out]; try rfl, (HBf.out.drew.alloc HBf.out.size _).drew.drew⟩
end Go.Proofs.YtodnlcbnbkkanaaGreatDoor
end
section
namespace Go.Vals
open Go

section
variable {P : Program} {ops : Array Oper} {N : World → World → Prop} {F : Array Value} {loose : List Tmp} {p : Tmp → Value → World → Prop} {S : World → Prop} {ds : List Deferred} {o : Oper} {l : List Oper}

/-- A call that hands back something of which only p is known. -/
theorem Each.callMakes (d : Tmp) (f : FuncId) (args : Array Value) (hs : noSel o = true) (hl : (o.looksAt ops).all (fun t => !loose.contains t) = true) (hd : o.dst = some d) (hm : loose.contains d = true) (hw : Region.wanted o (yielded ops F) = true)
    (he : ∀ w ds, (execOp (Act.eval ⟨F, ds⟩) o).run P w = .ok (.enter f args) w) (hc : ∀ w, S w → Calls P f args w fun e w' => ∃ v, e = .returned v ∧ N w w' ∧ p d v w')
    (hr : Each P ops N (Kn F loose p) S ds l) : Each P ops N (Kn F loose p) S ds (o :: l) :=
  ⟨fun a w _ hS hk => does_at (noSel_spec hs) hl hk (.inr ⟨hw, by
    have := he w a.defers
    show Gives P N _ o w ((execOp (Act.eval ⟨F, a.defers⟩) o).run P w)
    rw [this]
    exact (hc w hS).mono fun e w' ⟨v, h1, h2, h3⟩ => ⟨v, h1, h2, fun d' hd' => by rw [hd] at hd'; cases hd'; exact .inl ⟨by simpa using hm, h3⟩⟩⟩), hr⟩

/-- A call with two arguments, of the second of which only p is known. -/
theorem Each.callLoose2 (d t0 t : Tmp) (x0 v : Value) (f : FuncId) (hd : o.dst = some d) (hm : loose.contains d = false) (hl : (o.looksAt ops).contains t = true) (hl0 : ((o.looksAt ops).filter fun u => !loose.contains u).contains t0 = true) (hlo : loose.contains t = true)
    (hx0 : F[t0]? = some x0) (hw : Region.wanted o (yielded ops F) = true) (hg : guardIn ops o ((o.looksAt ops).filter fun u => !loose.contains u) = true) (hv : F[d]? = some v)
    (he : ∀ w a, (execOp (Act.eval a) o).run P w = .ok (.enter f #[a.eval (.tmp t0), a.eval (.tmp t)]) w) (hc : ∀ w x, S w → p t x w → Calls P f #[x0, x] w fun e w' => e = .returned v ∧ N w w')
    (hr : Each P ops N (Kn F loose p) S ds l) : Each P ops N (Kn F loose p) S ds (o :: l) := by
  have known : ∀ (a : Act) (w : World), Knows (Kn F loose p) (o.looksAt ops) a w → ∀ u ∈ (o.looksAt ops).filter (fun u => !loose.contains u), a.tmps[u]? = F[u]? := fun a w hk u hu => by
    obtain ⟨h1, h2⟩ := List.mem_filter.1 hu
    obtain ⟨x, hx, hK⟩ := hk u h1
    rcases hK with ⟨hm, _⟩ | ⟨_, hK⟩
    · simp [hm] at h2
    · rw [hx, hK]
  refine ⟨fun a w _ hS hk => .inr ⟨(wanted_same hg fun u hu => known a w hk u hu).trans hw, ?_⟩, hr⟩
  have h0 := known a w hk t0 (by simpa using hl0)
  obtain ⟨x, hx, hK⟩ := hk t (by simpa using hl)
  have hp : p t x w := by
    rcases hK with ⟨_, h⟩ | ⟨h, _⟩
    · exact h
    · exact absurd (by simpa using hlo) h
  rw [he, show a.eval (.tmp t) = x by simp [Act.eval, hx], show a.eval (.tmp t0) = x0 by simp [Act.eval, h0, hx0]]
  exact (hc w x hS hp).mono fun e w' hh => ⟨v, hh.1, hh.2, puts_at hd hm hv⟩

theorem putL_on : ∀ (l : List Tmp) (F T : Array Value), T.size = F.size → (∀ t, t < F.size → t ∉ l → T[t]? = F[t]?) → T = putL F (l.map some) (l.map fun t => T.getD t undef) := by
  intro l
  induction l with
  | nil =>
    intro F T hs h
    simp only [List.map_nil, putL]
    apply Array.ext hs
    intro i h1 h2
    have := h i h2 (by simp)
    simpa [h1, h2] using this
  | cons u l ih =>
    intro F T hs h
    simp only [List.map_cons, putL]
    refine ih _ T (by simpa using hs) fun t ht hn => ?_
    by_cases e : t = u
    · subst e
      have hlt : t < F.size := by simpa using ht
      rw [Array.getElem?_setIfInBounds_self_of_lt hlt]
      simp [Array.getD, hs, hlt]
    · rw [Array.getElem?_setIfInBounds_ne (fun h => e h.symm)]
      exact h t (by simpa using ht) (by simp [e, hn])
theorem loose_eq {F T : Array Value} {l : List Tmp} {p : Tmp → Value → World → Prop} {w : World} (hT : T.size = F.size) (hk : ∀ t < F.size, ∃ v, T[t]? = some v ∧ Kn F l p t v w) : T = putL F (l.map some) (l.map fun t => T.getD t undef) := by
  refine putL_on l F T hT fun t ht hn => ?_
  obtain ⟨v, hv, hK⟩ := hk t ht
  rcases hK with ⟨hm, _⟩ | ⟨_, hK⟩
  · exact absurd hm hn
  · rw [hv, hK]
end
end Go.Vals
end
section
namespace Go.Proofs.YtodnlcbnbkkanaaGreatDoor
open Go Go.RowKit Go.Vals

theorem once_no {α : Type} {eq : α → α → Bool} {l : List α} (i k : Nat) (x y : α) (hk : k < i) (hx : l[k]? = some x) (hy : l[i]? = some y) (h : eq x y = true) : onceA eq [] l = false := by
  cases e : onceA eq [] l with
  | false => rfl
  | true =>
    have h1 := ((onceA_iff eq l []).1 e).2
    rw [List.pairwise_iff_getElem] at h1
    obtain ⟨hkl, hkx⟩ := List.getElem?_eq_some_iff.1 hx
    obtain ⟨hil, hiy⟩ := List.getElem?_eq_some_iff.1 hy
    have h2 := h1 k i hkl hil hk
    rw [hkx, hiy, h] at h2
    cases h2
theorem once_yes {α : Type} {eq : α → α → Bool} {l : List α} (h : ∀ (i k : Nat) (x y : α), k < i → l[k]? = some x → l[i]? = some y → eq x y = false) : onceA eq [] l = true := by
  rw [onceA_iff]
  refine ⟨fun x _ y hy => by simp at hy, ?_⟩
  rw [List.pairwise_iff_getElem]
  intro k i hk hi hki
  exact h i k _ _ hki (List.getElem?_eq_getElem hk) (List.getElem?_eq_getElem hi)

/-- What of Check the walk of the reference wants. -/
structure CkP (g : GramM) (q : Int) : Prop where
  f0 : g.sorts.length < 1 → q = 160
  f1 : 1000 < g.sorts.length → q = 160
  f2 : 1000 < g.prods.length → q = 160
  f3 : numB g.start g.sorts.length = false → q = 160
  e1 : ∀ (i : Nat) (s : ByteArray), g.sorts[i]? = some s → nameB s = false → q = 160
  e2 : ∀ (i k : Nat) (x y : ByteArray), k < i → g.sorts[k]? = some x → g.sorts[i]? = some y → strEq x y = true → q = 160
  e3 : ∀ (i : Nat) (x : ProdM), g.prods[i]? = some x → prodB g.sorts.length x = false → q = 160
  e4 : ∀ (i : Nat) (x : ForM), g.forbid[i]? = some x → forbidB g x = false → q = 160
  e5 : ∀ (i k : Nat) (x y : ForM), k < i → g.forbid[k]? = some x → g.forbid[i]? = some y → forEq x y = true → q = 160
  e6 : ∀ (i : Nat) (x : FolM), g.follow[i]? = some x → folB g.sorts.length x = false → q = 160
  e7 : ∀ (i k : Nat) (x y : FolM), k < i → g.follow[k]? = some x → g.follow[i]? = some y → (x.sort == y.sort) = true → q = 160
  yes : 1 ≤ g.sorts.length → g.sorts.length ≤ 1000 → g.prods.length ≤ 1000 → numB g.start g.sorts.length = true →
    (∀ (i : Nat) (s : ByteArray), g.sorts[i]? = some s → nameB s = true) → (∀ (i k : Nat) (x y : ByteArray), k < i → g.sorts[k]? = some x → g.sorts[i]? = some y → strEq x y = false) →
    (∀ (i : Nat) (x : ProdM), g.prods[i]? = some x → prodB g.sorts.length x = true) → (∀ (i : Nat) (x : ForM), g.forbid[i]? = some x → forbidB g x = true) →
    (∀ (i k : Nat) (x y : ForM), k < i → g.forbid[k]? = some x → g.forbid[i]? = some y → forEq x y = false) → (∀ (i : Nat) (x : FolM), g.follow[i]? = some x → folB g.sorts.length x = true) →
    (∀ (i k : Nat) (x y : FolM), k < i → g.follow[k]? = some x → g.follow[i]? = some y → (x.sort == y.sort) = false) → q = 0
theorem all_no {α : Type} {p : α → Bool} {l : List α} (i : Nat) (x : α) (hx : l[i]? = some x) (h : p x = false) : l.all p = false := List.all_eq_false.2 ⟨x, List.mem_of_getElem? hx, by rw [h]; simp⟩
theorem all_yes {α : Type} {p : α → Bool} {l : List α} (h : ∀ (i : Nat) (x : α), l[i]? = some x → p x = true) : l.all p = true := List.all_eq_true.2 fun x hx => by
  obtain ⟨i, hi⟩ := List.mem_iff_getElem?.1 hx
  exact h i x hi
theorem once_mapF {α β : Type} [BEq β] [LawfulBEq β] (f : α → β) (l : List α) : onceA (fun a b => a == b) [] (l.map f) = onceA (fun a b => f a == f b) [] l := by
  rw [Bool.eq_iff_iff, onceA_iff, onceA_iff, List.pairwise_map]
  simp
theorem ckP (g : GramM) : CkP g (errI (checkB g)) := by
  have hn : ∀ {b : Bool}, b = false → errI b = 160 := fun h => by rw [h]; rfl
  unfold checkB sortsB' startB prodsB forbidsB followsB
  rw [once_mapF]
  constructor
  · intro h; refine hn ?_; rw [decide_eq_false (by omega : ¬ 1 ≤ g.sorts.length)]; simp only [Bool.false_and]
  · intro h; refine hn ?_; rw [decide_eq_false (by omega : ¬ g.sorts.length ≤ 1000)]; simp only [Bool.false_and, Bool.and_false]
  · intro h; refine hn ?_; rw [decide_eq_false (by omega : ¬ g.prods.length ≤ 1000)]; simp only [Bool.false_and, Bool.and_false]
  · intro h; refine hn ?_; rw [h]; simp only [Bool.false_and, Bool.and_false]
  · intro i s h1 h2; refine hn ?_; rw [all_no i s h1 h2]; simp only [Bool.false_and, Bool.and_false]
  · intro i k x y h0 h1 h2 h3; refine hn ?_; rw [once_no i k x y h0 h1 h2 h3]; simp only [Bool.false_and, Bool.and_false]
  · intro i s h1 h2; refine hn ?_; rw [all_no i s h1 h2]; simp only [Bool.false_and, Bool.and_false]
  · intro i s h1 h2; refine hn ?_; rw [all_no i s h1 h2]; simp only [Bool.false_and, Bool.and_false]
  · intro i k x y h0 h1 h2 h3; refine hn ?_; rw [once_no i k x y h0 h1 h2 h3]; simp only [Bool.false_and, Bool.and_false]
  · intro i s h1 h2; refine hn ?_; rw [all_no i s h1 h2]; simp only [Bool.false_and, Bool.and_false]
  · intro i k x y h0 h1 h2 h3; refine hn ?_; rw [once_no (eq := fun a b : FolM => a.sort == b.sort) i k x y h0 h1 h2 h3]; simp only [Bool.false_and, Bool.and_false]
  · intro a1 a2 a3 a4 a5 a6 a7 a8 a9 a10 a11
    rw [decide_eq_true a1, decide_eq_true a2, decide_eq_true a3, a4, all_yes a5, once_yes a6, all_yes a7, all_yes a8, once_yes a9, all_yes a10, once_yes (eq := fun a b : FolM => a.sort == b.sort) a11]
    rfl

theorem ld27r {w : World} {o : Oper} {ρ : Operand → Value} {x : Operand} {b : Nat} {v0 v1 v2 v3 v4 : Value} (ho : o.op = .load 27 x) (hx : ρ x = .pointer (some ⟨b, 0, none⟩)) (h : w.cell? ⟨b, 0, none⟩ = some v0 ∧ w.cell? ⟨b, 1, none⟩ = some v1 ∧ w.cell? ⟨b, 2, none⟩ = some v2 ∧ w.cell? ⟨b, 3, none⟩ = some v3 ∧ w.cell? ⟨b, 4, none⟩ = some v4) : (execOp ρ o).run Tryz.prog w = .ok (.value (.agg #[v0, v1, v2, v3, v4])) w := by
  obtain ⟨c0, c1, c2, c3, c4⟩ := h
  unfold execOp; rw [ho]; simp only [hx]
  go_simp
theorem ld47 {w : World} {o : Oper} {ρ : Operand → Value} {x : Operand} {b q : Nat} {v0 v1 v2 v3 : Value} (ho : o.op = .load 47 x) (hx : ρ x = .pointer (some ⟨b, q, none⟩)) (h : w.cell? ⟨b, q, none⟩ = some v0 ∧ w.cell? ⟨b, q + 1, none⟩ = some v1 ∧ w.cell? ⟨b, q + 2, none⟩ = some v2 ∧ w.cell? ⟨b, q + 3, none⟩ = some v3) : (execOp ρ o).run Tryz.prog w = .ok (.value (.agg #[v0, v1, v2, v3])) w := by
  obtain ⟨c0, c1, c2, c3⟩ := h
  unfold execOp; rw [ho]; simp only [hx]
  go_simp

set_option maxRecDepth 100000 in
set_option maxHeartbeats 8000000 in
theorem rcheck_any (g : GramM) (w : World) (hg : GIn w g) (hf : FitG g) : Calls Tryz.prog 12 #[gramV g] w fun e w' => e = .returned (.int .i64 (errI (checkB g))) ∧ Below w.heap.size w w' := by
  have HQ := Lib.hid (ckP g)
  obtain ⟨q, hq⟩ : ∃ q, q = errI (checkB g) := ⟨_, rfl⟩
  rw [← hq] at HQ ⊢
  have HG := Lib.hid hg
  have HF := Lib.hid hf
  obtain ⟨m1, m2, _, m3, m4, _, _⟩ := hf.fit
  have K0 : Hid (Blk (w.alloc (.cells (gramC g) 27)) w.heap.size 27 (gramC g) ∧ Below w.heap.size w (w.alloc (.cells (gramC g) 27))) := Lib.hid ⟨Blk.new w 27 _, (Below.refl _ _).alloc (Nat.le_refl _) _⟩
  have HSt := fun W => Lib.hid (rsort_any g g.start W)
  have HSo := fun n W => Lib.hid (rsort_any g n W)
  have HPr := Lib.hid (fun x W (hW : Below w.heap.size w W) (hx : x ∈ g.prods) (hi : ProdIn W x) => rprod_any g x W hi (Nat.le_trans (hf.fit.right x hx) (by unfold maxLen; omega)))
  have HFo := Lib.hid (fun f W (hW : Below w.heap.size w W) (hx : f ∈ g.forbid) => rforbid_any g f W (hg.below hW) hf.fit.prods hf.fit.right (hf.forb f hx))
  obtain ⟨r3, hr3⟩ : ∃ r, r = numB g.start g.sorts.length := ⟨_, rfl⟩
  have HR3 : Hid (numB g.start g.sorts.length = r3) := Lib.hid hr3.symm
  simp only [← hr3] at HSt
  obtain ⟨n1, hn1⟩ : ∃ n, n = g.sorts.length := ⟨_, rfl⟩
  obtain ⟨n2, hn2⟩ : ∃ n, n = g.prods.length := ⟨_, rfl⟩
  obtain ⟨n3, hn3⟩ : ∃ n, n = g.forbid.length := ⟨_, rfl⟩
  obtain ⟨n4, hn4⟩ : ∃ n, n = g.follow.length := ⟨_, rfl⟩
  have N1 := Lib.hid hn1
  have N2 := Lib.hid hn2
  have N3 := Lib.hid hn3
  have N4 := Lib.hid hn4
  unfold gramV gramC prodV prodC forV forC at *
  rw [← hn1] at m1
  rw [← hn2] at m2
  rw [← hn3] at m3
  rw [← hn4] at m4
  simp only [← hn1, ← hn2, ← hn3, ← hn4] at HSt HSo HPr HFo K0 ⊢
  have HBf := Lib.hid K0.out.2
  clear hg hf hq hr3 hn1 hn2 hn3 hn4
  by_cases h0 : n1 < 1
  · have HE := Lib.hid (HQ.out.f0 (by rw [← N1.out]; exact h0))
    have d0 : decide ((n1 : Int) < 1) = true := by simp; omega
    clear HQ HSt HSo HPr HFo h0
    go_enter Tryz.func12, Tryz.ntmps12
    go_wp2
    go_ret
    exact ⟨by rw [HE.out]; rfl, HBf.out⟩
  · have d0 : decide ((n1 : Int) < 1) = false := by simp; omega
    by_cases h1 : 1000 < n1
    · have HE := Lib.hid (HQ.out.f1 (by rw [← N1.out]; exact h1))
      have d1 : decide ((1000 : Int) < (n1 : Int)) = true := by simp; omega
      clear HQ HSt HSo HPr HFo h0 h1
      go_enter Tryz.func12, Tryz.ntmps12
      go_wp2
      go_ret
      exact ⟨by rw [HE.out]; rfl, HBf.out⟩
    · have d1 : decide ((1000 : Int) < (n1 : Int)) = false := by simp; omega
      by_cases h2 : 1000 < n2
      · have HE := Lib.hid (HQ.out.f2 (by rw [← N2.out]; exact h2))
        have d2 : decide ((1000 : Int) < (n2 : Int)) = true := by simp; omega
        clear HQ HSt HSo HPr HFo h0 h1 h2
        go_enter Tryz.func12, Tryz.ntmps12
        go_wp2
        go_ret
        exact ⟨by rw [HE.out]; rfl, HBf.out⟩
      · have d2 : decide ((1000 : Int) < (n2 : Int)) = false := by simp; omega
        cases r3 with
        | false =>
          have HE := Lib.hid (HQ.out.f3 HR3.out)
          clear HQ HSo HPr HFo h0 h1 h2
          go_enter Tryz.func12, Tryz.ntmps12
          go_wp2_with fail
          with_reducible refine (HSt _).out.mono ?_
          rintro e w3 ⟨rfl, hB3⟩
          have HB3 := Lib.hid (HBf.out.trans (hB3.mono HBf.out.size))
          clear hB3
          go_wp2
          go_ret
          exact ⟨by rw [HE.out]; rfl, HB3.out⟩
        | true =>
          have H0 : Hid (1 ≤ g.sorts.length ∧ g.sorts.length ≤ 1000 ∧ g.prods.length ≤ 1000) := Lib.hid (by rw [← N1.out, ← N2.out]; omega)
          clear h0 h1 h2 HBf
          go_enter Tryz.func12, Tryz.ntmps12
          go_wp2_with fail
          with_reducible refine (HSt _).out.mono ?_
          rintro e w3 ⟨rfl, hB3⟩
          have K : Hid (Blk w3 w.heap.size 27 #[.slice g.sa n1 g.sc, .slice g.pa n2 g.pc, .int .i64 g.start, .slice g.fa n3 g.fc, .slice g.wa n4 g.wc] ∧ Below w.heap.size w w3) := Lib.hid ⟨K0.out.1.below hB3 K0.out.1.lt, K0.out.2.trans (hB3.mono K0.out.2.size)⟩
          clear hB3 K0 HSt
          obtain ⟨c0, c1, c2, c3, c4⟩ := cells5' K.out.1
          have l0 := K.out.1.lt
          go_wp2
          go_loopw [3] (fun vi wr => ∃ k : Nat, vi = .int .i64 k ∧ k ≤ n1 ∧ Hid (∀ (i : Nat) (x : ByteArray), i < k → g.sorts[i]? = some x → nameB x = true) ∧ Hid (∀ (i j : Nat) (x y : ByteArray), j < i → i < k → g.sorts[j]? = some x → g.sorts[i]? = some y → strEq x y = false) ∧ Hid (Blk wr w.heap.size 27 #[.slice g.sa n1 g.sc, .slice g.pa n2 g.pc, .int .i64 g.start, .slice g.fa n3 g.fc, .slice g.wa n4 g.wc] ∧ Below w.heap.size w wr)) (fun vi _ => n1 - (intOf vi).toNat)
          case atStart => exact ⟨0, rfl, Nat.zero_le _, Lib.hid (fun j s hj => by omega), Lib.hid (fun i k x y hk hi => by omega), K⟩
          case round =>
            clear K c0 c1 c2 c3 c4 l0
            obtain ⟨k, rfl, hk, hS, hE, K⟩ := hrel
            obtain ⟨c0, c1, c2, c3, c4⟩ := cells5' K.out.1
            have l0 := K.out.1.lt
            by_cases hlt : k < n1
            · obtain ⟨x, hx⟩ : ∃ x, g.sorts[k]? = some x := ⟨_, List.getElem?_eq_getElem (by rw [← N1.out]; exact hlt)⟩
              obtain ⟨b1, o1, e1, hb1, hc1, hi1⟩ := HG.out.sorts k x hx
              have hb1' := Nat.lt_of_lt_of_le hb1 K.out.2.size
              have z1 : (k : Int) < (n1 : Int) := by omega
              have z0 : (0 : Int) ≤ (k : Int) := by omega
              have x1 := Str_at (hc1.below K.out.2 hb1)
              simp only [Nat.mul_one] at x1
              have HXB : Hid (nameB x = false → q = 160) := Lib.hid (HQ.out.e1 k x hx)
              cases he : x.toList.isEmpty with
              | true =>
                have z2 : x.toList = [] := by simpa using he
                have HE := Lib.hid (HXB.out (by rw [empty_size] at he; have := of_decide_eq_true he; unfold nameB; rw [this]; rfl))
                rw [e1] at c0
                clear hx hc1 hS hE HXB e1
                go_wp2
                go_ret
                exact ⟨by rw [HE.out]; rfl, K.out.2⟩
              | false =>
                have z2 : ¬ x.toList = [] := by simpa using he
                have z3 : 1 ≤ x.size := by rw [empty_size] at he; have := of_decide_eq_false he; omega
                by_cases hl : 1000 < x.size
                · have z4 : decide ((1000 : Int) < (x.size : Int)) = true := by simp; omega
                  have HE := Lib.hid (HXB.out (by unfold nameB; rw [decide_eq_false (by omega : ¬ x.size ≤ 1000), Bool.and_false]))
                  rw [e1] at c0
                  clear hx hc1 hS hE HXB e1 hl z3
                  go_wp2
                  go_ret
                  exact ⟨by rw [HE.out]; rfl, K.out.2⟩
                · have z4 : decide ((1000 : Int) < (x.size : Int)) = false := by simp; omega
                  have HX : Hid (nameB x = true) := Lib.hid (by unfold nameB; rw [decide_eq_true z3, decide_eq_true (by omega : x.size ≤ 1000)]; rfl)
                  have HA : Hid (∀ (i : Nat) (y : ByteArray), i < k + 1 → g.sorts[i]? = some y → nameB y = true) := Lib.hid (fun i y hi hy => by
                    by_cases e : i = k
                    · subst e; rw [hx] at hy; cases hy; exact HX.out
                    · exact hS.out i y (by omega) hy)
                  clear hS HXB HX hl z3
                  have C0 := Lib.hid c0
                  have E10 := Lib.hid e1
                  rw [e1] at c0
                  have HX1 := Lib.hid hx
                  have E1 := Lib.hid e1
                  have HC1 := Lib.hid hc1
                  clear hx e1 hc1 hi1
                  go_wp2
                  obtain ⟨wo, rfl⟩ : ∃ wo : World, wo = wr := ⟨_, rfl⟩
                  go_loopw [4] (fun vi wr => ∃ m : Nat, vi = .int .i64 m ∧ m ≤ k ∧ Hid (∀ (j : Nat) (y : ByteArray), j < m → g.sorts[j]? = some y → strEq y x = false) ∧ Hid (Blk wr w.heap.size 27 #[.slice g.sa n1 g.sc, .slice g.pa n2 g.pc, .int .i64 g.start, .slice g.fa n3 g.fc, .slice g.wa n4 g.wc] ∧ Below w.heap.size w wr)) (fun vi _ => k - (intOf vi).toNat)
                  case atStart => exact ⟨0, rfl, Nat.zero_le _, Lib.hid (fun j s hj => by omega), K⟩
                  case round =>
                    clear K c0 c1 c2 c3 c4 l0
                    obtain ⟨m, rfl, hm, hM, K⟩ := hrel
                    obtain ⟨c0, c1, c2, c3, c4⟩ := cells5' K.out.1
                    have l0 := K.out.1.lt
                    by_cases hml : m < k
                    · obtain ⟨y, hy⟩ : ∃ y, g.sorts[m]? = some y := ⟨_, List.getElem?_eq_getElem (by have := (List.getElem?_eq_some_iff.1 HX1.out).1; omega)⟩
                      obtain ⟨b2, o2, e2, hb2, hc2, _⟩ := HG.out.sorts m y hy
                      obtain rfl : b1 = b2 := by rw [E1.out] at e2; simpa using congrArg (fun a => a.map (·.block)) e2
                      obtain rfl : o1 = o2 := by rw [E1.out] at e2; simpa using congrArg (fun a => a.map (·.off)) e2
                      have zz1 : (m : Int) < (k : Int) := by omega
                      have zz2 : (m : Int) < (n1 : Int) := by omega
                      have zz0 : (0 : Int) ≤ (m : Int) := by omega
                      have hb2' := Nat.lt_of_lt_of_le hb1 K.out.2.size
                      have x1 := Str_at (HC1.out.below K.out.2 hb1)
                      have x2 := Str_at (hc2.below K.out.2 hb1)
                      simp only [Nat.mul_one] at x1 x2
                      have HXB : Hid (strEq y x = true → q = 160) := Lib.hid (HQ.out.e2 k m y x hml hy HX1.out)
                      have HXG : Hid (strEq y x = false → ∀ (j : Nat) (y : ByteArray), j < m + 1 → g.sorts[j]? = some y → strEq y x = false) := Lib.hid (fun h j y' hj hy' => by
                        by_cases e : j = m
                        · subst e; rw [hy] at hy'; cases hy'; exact h
                        · exact hM.out j y' (by omega) hy')
                      rw [E1.out] at c0
                      clear hy hc2 hM e2
                      by_cases he : y.data.toList = x.data.toList
                      · have g1 : (y.toList == x.toList) = true := by rw [toList_data, toList_data, he]; simp
                        have HE := Lib.hid (HXB.out (by unfold strEq; simpa using he))
                        clear he
                        clear HXB HXG
                        go_wp2
                        go_region
                        go_wp2
                        go_ret
                        exact ⟨by rw [HE.out]; rfl, K.out.2.drew⟩
                      · have g1 : (y.toList == x.toList) = false := by rw [toList_data, toList_data]; simpa using he
                        have HZ2 := Lib.hid (HXG.out (by unfold strEq; simpa using he))
                        clear he
                        clear HXB HXG
                        go_wp2
                        go_region
                        go_wp2
                        go_roundw
                        case rel => exact ⟨m + 1, by go_num, by omega, HZ2, Lib.hid ⟨K.out.1.drew, K.out.2.drew⟩⟩
                        case measure => simp [intOf]; omega
                    · have HEn : Hid (∀ (i j : Nat) (x y : ByteArray), j < i → i < k + 1 → g.sorts[j]? = some x → g.sorts[i]? = some y → strEq x y = false) := Lib.hid (fun i j x' y' hj hi hx' hy' => by
                        by_cases e : i = k
                        · subst e; rw [HX1.out] at hy'; cases hy'; exact hM.out j x' (by omega) hx'
                        · exact hE.out i j x' y' hj (by omega) hx' hy')
                      clear hM hE
                      obtain rfl : k = m := by omega
                      go_wp2
                      go_roundw
                      case rel => exact ⟨k + 1, by go_num, by omega, HA, HEn, K⟩
                      case measure => simp [intOf]; omega
            · obtain rfl : n1 = k := by omega
              have S1 := Lib.hid (fun (i : Nat) (x : ByteArray) hx => hS.out i x (by have := (List.getElem?_eq_some_iff.1 hx).1; have := N1.out; omega) hx)
              have S2 := Lib.hid (fun (i j : Nat) (x y : ByteArray) hj hx hy => hE.out i j x y hj (by have := (List.getElem?_eq_some_iff.1 hy).1; have := N1.out; omega) hx hy)
              clear hS hE hk hlt
              go_wp2
              obtain ⟨wo1, rfl⟩ : ∃ wo : World, wo = wr := ⟨_, rfl⟩
              go_loopw [5] (fun vi wr => ∃ k : Nat, vi = .int .i64 k ∧ k ≤ n2 ∧ Hid (∀ (i : Nat) (x : ProdM), i < k → g.prods[i]? = some x → prodB g.sorts.length x = true) ∧ Hid (Blk wr w.heap.size 27 #[.slice g.sa n1 g.sc, .slice g.pa n2 g.pc, .int .i64 g.start, .slice g.fa n3 g.fc, .slice g.wa n4 g.wc] ∧ Below w.heap.size w wr)) (fun vi _ => n2 - (intOf vi).toNat)
              case atStart => exact ⟨0, rfl, Nat.zero_le _, Lib.hid (fun j s hj => by omega), K⟩
              case round =>
                clear K c0 c1 c2 c3 c4 l0
                obtain ⟨k, rfl, hk, hS, K⟩ := hrel
                obtain ⟨c0, c1, c2, c3, c4⟩ := cells5' K.out.1
                have l0 := K.out.1.lt
                by_cases hlt : k < n2
                · obtain ⟨x, hx⟩ : ∃ x, g.prods[k]? = some x := ⟨_, List.getElem?_eq_getElem (by rw [← N2.out]; exact hlt)⟩
                  obtain ⟨b1, o1, e1, hb1, hc1, hi1⟩ := HG.out.prods k x hx
                  have hb1' := Nat.lt_of_lt_of_le hb1 K.out.2.size
                  have z1 : (k : Int) < (n2 : Int) := by omega
                  have z0 : (0 : Int) ≤ (k : Int) := by omega
                  obtain ⟨x10, x11, x12, x13, x14, x15, x16⟩ := Prod_at (hc1.below K.out.2 hb1)
                  have HXB : Hid (prodB g.sorts.length x = false → q = 160) := Lib.hid (HQ.out.e3 k x hx)
                  have HZ : Hid (prodB g.sorts.length x = true → ∀ (i : Nat) (y : ProdM), i < k + 1 → g.prods[i]? = some y → prodB g.sorts.length y = true) := Lib.hid (fun h i y hi hy => by
                    by_cases e : i = k
                    · subst e; rw [hx] at hy; cases hy; exact h
                    · exact hS.out i y (by omega) hy)
                  have HC := Lib.hid (HPr.out x wr.drew K.out.2.drew (List.mem_of_getElem? hx) (hi1.below K.out.2.drew))
                  simp only [← N1.out] at HXB HC
                  obtain ⟨r, hr⟩ : ∃ r, r = prodB n1 x := ⟨_, rfl⟩
                  rw [← hr] at HXB HC
                  have HRR := Lib.hid hr
                  rw [e1] at c1 HC
                  clear hx hc1 hi1 e1 hS hr
                  go_wp2
                  refine wp_region_still_tail 6 (by kernel_rfl) (by kernel_rfl) ?_
                  show wpStill _ _ wr.drew _ _ _
                  obtain ⟨V, hV⟩ : ∃ W, W = wr.drew := ⟨_, rfl⟩
                  have kW : ∀ a, V.cell? a = wr.cell? a := fun a => by rw [hV]; rfl
                  have hs : V.heap.size = wr.heap.size := by rw [hV]; rfl
                  have KV : Hid (Blk V w.heap.size 27 #[.slice g.sa n1 g.sc, .slice g.pa n2 g.pc, .int .i64 g.start, .slice g.fa n3 g.fc, .slice g.wa n4 g.wc] ∧ Below w.heap.size w V) := Lib.hid (by rw [hV]; exact ⟨K.out.1.drew, K.out.2.drew⟩)
                  rw [← hV]
                  simp only [← kW] at c0 c1 c2 c3 c4 x10 x11 x12 x13 x14 x15 x16
                  rw [← hs] at l0 hb1'
                  have HV := Lib.hid hV
                  have HCW : Hid (Calls Tryz.prog 42 #[.agg #[.slice g.sa n1 g.sc, .slice (some ⟨b1, o1, none⟩) n2 g.pc, .int .i64 g.start, .slice g.fa n3 g.fc, .slice g.wa n4 g.wc], .agg #[.int .i64 x.left, .slice x.ra x.right.length x.rc, .string x.cons, .int .i64 x.role, .bool x.prefer, .bool x.avoid, .int .i64 x.frm]] V fun e w' => e = .returned (.bool r) ∧ Below V.heap.size V w') := Lib.hid (by rw [hV]; exact HC.out)
                  clear kW hV hs K
                  simp only [List.take_succ_cons, List.take_zero, List.drop_succ_cons, List.drop_zero]
                  repeat still_step
                  refine wpStill_nil ?_
                  show wpList _ _ _ _ _ wr.drew
                  rw [← HV.out]
                  clear HV
                  go_wp2_with fail
                  with_reducible refine HCW.out.mono ?_
                  rintro e w3 ⟨rfl, hB3⟩
                  have K3 : Hid (Blk w3 w.heap.size 27 #[.slice g.sa n1 g.sc, .slice g.pa n2 g.pc, .int .i64 g.start, .slice g.fa n3 g.fc, .slice g.wa n4 g.wc] ∧ Below w.heap.size w w3) := Lib.hid ⟨KV.out.1.below hB3 KV.out.1.lt, KV.out.2.trans (hB3.mono KV.out.2.size)⟩
                  clear hB3 KV HCW c0 c1 c2 c3 c4 l0 x10 x11 x12 x13 x14 x15 x16
                  cases r with
                  | false =>
                    have HE := Lib.hid (HXB.out rfl)
                    clear HXB HZ
                    go_wp2
                    go_ret
                    exact ⟨by rw [HE.out]; rfl, K3.out.2⟩
                  | true =>
                    have HZ2 := Lib.hid (HZ.out (by rw [← N1.out]; exact HRR.out.symm))
                    clear HXB HZ
                    go_wp2
                    go_roundw
                    case rel => exact ⟨k + 1, by go_num, by omega, HZ2, K3⟩
                    case measure => simp [intOf]; omega
                · obtain rfl : n2 = k := by omega
                  have S3 := Lib.hid (fun (i : Nat) (x : ProdM) hx => hS.out i x (by have := (List.getElem?_eq_some_iff.1 hx).1; have := N2.out; omega) hx)
                  clear hS hk hlt
                  go_wp2
                  obtain ⟨wo2, rfl⟩ : ∃ wo : World, wo = wr := ⟨_, rfl⟩
                  go_loopw [6] (fun vi wr => ∃ k : Nat, vi = .int .i64 k ∧ k ≤ n3 ∧ Hid (∀ (i : Nat) (x : ForM), i < k → g.forbid[i]? = some x → forbidB g x = true) ∧ Hid (∀ (i j : Nat) (x y : ForM), j < i → i < k → g.forbid[j]? = some x → g.forbid[i]? = some y → forEq x y = false) ∧ Hid (Blk wr w.heap.size 27 #[.slice g.sa n1 g.sc, .slice g.pa n2 g.pc, .int .i64 g.start, .slice g.fa n3 g.fc, .slice g.wa n4 g.wc] ∧ Below w.heap.size w wr)) (fun vi _ => n3 - (intOf vi).toNat)
                  case atStart => exact ⟨0, rfl, Nat.zero_le _, Lib.hid (fun j s hj => by omega), Lib.hid (fun i k x y hk hi => by omega), K⟩
                  case round =>
                    clear K c0 c1 c2 c3 c4 l0
                    obtain ⟨k, rfl, hk, hS, hE, K⟩ := hrel
                    obtain ⟨c0, c1, c2, c3, c4⟩ := cells5' K.out.1
                    have l0 := K.out.1.lt
                    by_cases hlt : k < n3
                    · obtain ⟨x, hx⟩ : ∃ x, g.forbid[k]? = some x := ⟨_, List.getElem?_eq_getElem (by rw [← N3.out]; exact hlt)⟩
                      obtain ⟨b1, o1, e1, hb1, hc1, hi1⟩ := HG.out.forbid k x hx
                      have hb1' := Nat.lt_of_lt_of_le hb1 K.out.2.size
                      have z1 : (k : Int) < (n3 : Int) := by omega
                      have z0 : (0 : Int) ≤ (k : Int) := by omega
                      obtain ⟨x10, x11, x12⟩ := For_at (hc1.below K.out.2 hb1)
                      have HXB : Hid (forbidB g x = false → q = 160) := Lib.hid (HQ.out.e4 k x hx)
                      have HC := Lib.hid (HFo.out x wr.drew K.out.2.drew (List.mem_of_getElem? hx))
                      obtain ⟨r, hr⟩ : ∃ r, r = forbidB g x := ⟨_, rfl⟩
                      rw [← hr] at HXB HC
                      have HRR := Lib.hid hr
                      have c3' := c3
                      rw [e1] at c3 HC
                      have E1h := Lib.hid e1
                      clear hr e1
                      go_wp2
                      refine wp_region_still_tail 6 (by kernel_rfl) (by kernel_rfl) ?_
                      show wpStill _ _ wr.drew _ _ _
                      obtain ⟨V, hV⟩ : ∃ W, W = wr.drew := ⟨_, rfl⟩
                      have kW : ∀ a, V.cell? a = wr.cell? a := fun a => by rw [hV]; rfl
                      have hs : V.heap.size = wr.heap.size := by rw [hV]; rfl
                      have KV : Hid (Blk V w.heap.size 27 #[.slice g.sa n1 g.sc, .slice g.pa n2 g.pc, .int .i64 g.start, .slice g.fa n3 g.fc, .slice g.wa n4 g.wc] ∧ Below w.heap.size w V) := Lib.hid (by rw [hV]; exact ⟨K.out.1.drew, K.out.2.drew⟩)
                      rw [← hV]
                      simp only [← kW] at c0 c1 c2 c3 c4 x10 x11 x12
                      rw [← hs] at l0 hb1'
                      have HV := Lib.hid hV
                      have HCW : Hid (Calls Tryz.prog 43 #[.agg #[.slice g.sa n1 g.sc, .slice g.pa n2 g.pc, .int .i64 g.start, .slice (some ⟨b1, o1, none⟩) n3 g.fc, .slice g.wa n4 g.wc], .agg #[.int .i64 x.parent, .int .i64 x.at_, .int .i64 x.child]] V fun e w' => e = .returned (.bool r) ∧ Below V.heap.size V w') := Lib.hid (by rw [hV]; exact HC.out)
                      clear c3'
                      clear kW hV hs K
                      simp only [List.take_succ_cons, List.take_zero, List.drop_succ_cons, List.drop_zero]
                      repeat still_step
                      refine wpStill_nil ?_
                      show wpList _ _ _ _ _ wr.drew
                      rw [← HV.out]
                      clear HV
                      go_wp2_with fail
                      with_reducible refine HCW.out.mono ?_
                      rintro e w3 ⟨rfl, hB3⟩
                      have K3 : Hid (Blk w3 w.heap.size 27 #[.slice g.sa n1 g.sc, .slice g.pa n2 g.pc, .int .i64 g.start, .slice g.fa n3 g.fc, .slice g.wa n4 g.wc] ∧ Below w.heap.size w w3) := Lib.hid ⟨KV.out.1.below hB3 KV.out.1.lt, KV.out.2.trans (hB3.mono KV.out.2.size)⟩
                      clear hB3 KV HCW c0 c1 c2 c3 c4 l0 x10 x11 x12
                      cases r with
                      | false =>
                        have HE := Lib.hid (HXB.out rfl)
                        clear HXB hx hc1 hi1 hS hE
                        go_wp2
                        go_ret
                        exact ⟨by rw [HE.out]; rfl, K3.out.2⟩
                      | true =>
                        have HX : Hid (forbidB g x = true) := Lib.hid HRR.out.symm
                        have HA : Hid (∀ (i : Nat) (y : ForM), i < k + 1 → g.forbid[i]? = some y → forbidB g y = true) := Lib.hid (fun i y hi hy => by
                          by_cases e : i = k
                          · subst e; rw [hx] at hy; cases hy; exact HX.out
                          · exact hS.out i y (by omega) hy)
                        clear hS HXB HX HRR HC
                        obtain ⟨c0, c1, c2, c3, c4⟩ := cells5' K3.out.1
                        have l0 := K3.out.1.lt
                        obtain ⟨wz, rfl⟩ : ∃ z : World, z = wr := ⟨_, rfl⟩
                        obtain ⟨wr, rfl⟩ : ∃ z : World, z = w3 := ⟨_, rfl⟩
                        have e1 := E1h.out
                        have HX1 := Lib.hid hx
                        have E1 := Lib.hid e1
                        have HC1 := Lib.hid hc1
                        clear hx e1 hc1 hi1
                        go_wp2
                        obtain ⟨wo, rfl⟩ : ∃ wo : World, wo = wr := ⟨_, rfl⟩
                        go_loopw [7] (fun vi wr => ∃ m : Nat, vi = .int .i64 m ∧ m ≤ k ∧ Hid (∀ (j : Nat) (y : ForM), j < m → g.forbid[j]? = some y → forEq y x = false) ∧ Hid (Blk wr w.heap.size 27 #[.slice g.sa n1 g.sc, .slice g.pa n2 g.pc, .int .i64 g.start, .slice g.fa n3 g.fc, .slice g.wa n4 g.wc] ∧ Below w.heap.size w wr)) (fun vi _ => k - (intOf vi).toNat)
                        case atStart => exact ⟨0, rfl, Nat.zero_le _, Lib.hid (fun j s hj => by omega), K3⟩
                        case round =>
                          clear K3 c0 c1 c2 c3 c4 l0
                          obtain ⟨m, rfl, hm, hM, K⟩ := hrel
                          obtain ⟨c0, c1, c2, c3, c4⟩ := cells5' K.out.1
                          have l0 := K.out.1.lt
                          by_cases hml : m < k
                          · obtain ⟨y, hy⟩ : ∃ y, g.forbid[m]? = some y := ⟨_, List.getElem?_eq_getElem (by have := (List.getElem?_eq_some_iff.1 HX1.out).1; omega)⟩
                            obtain ⟨b2, o2, e2, hb2, hc2, _⟩ := HG.out.forbid m y hy
                            obtain rfl : b1 = b2 := by rw [E1.out] at e2; simpa using congrArg (fun a => a.map (·.block)) e2
                            obtain rfl : o1 = o2 := by rw [E1.out] at e2; simpa using congrArg (fun a => a.map (·.off)) e2
                            have zz1 : (m : Int) < (k : Int) := by omega
                            have zz2 : (m : Int) < (n3 : Int) := by omega
                            have zz0 : (0 : Int) ≤ (m : Int) := by omega
                            have hb2' := Nat.lt_of_lt_of_le hb1 K.out.2.size
                            obtain ⟨x10, x11, x12⟩ := For_at (HC1.out.below K.out.2 hb1)
                            obtain ⟨x20, x21, x22⟩ := For_at (hc2.below K.out.2 hb1)
                            have HXB : Hid (forEq y x = true → q = 160) := Lib.hid (HQ.out.e5 k m y x hml hy HX1.out)
                            have HXG : Hid (forEq y x = false → ∀ (j : Nat) (y : ForM), j < m + 1 → g.forbid[j]? = some y → forEq y x = false) := Lib.hid (fun h j y' hj hy' => by
                              by_cases e : j = m
                              · subst e; rw [hy] at hy'; cases hy'; exact h
                              · exact hM.out j y' (by omega) hy')
                            rw [E1.out] at c3
                            clear hy hc2 hM e2
                            cases he : forEq y x with
                            | true =>
                              have hee : (y.parent == x.parent && (y.at_ == x.at_ && y.child == x.child)) = true := he
                              have g1 := fun w' => eq_fors 9996 y x w'
                              simp only [hee] at g1
                              clear hee
                              unfold forV forC at g1
                              have HE := Lib.hid (HXB.out he)
                              clear he
                              clear HXB HXG
                              go_wp2
                              go_region
                              go_wp2
                              go_ret
                              exact ⟨by rw [HE.out]; rfl, K.out.2.drew⟩
                            | false =>
                              have hee : (y.parent == x.parent && (y.at_ == x.at_ && y.child == x.child)) = false := he
                              have g1 := fun w' => eq_fors 9996 y x w'
                              simp only [hee] at g1
                              clear hee
                              unfold forV forC at g1
                              have HZ2 := Lib.hid (HXG.out he)
                              clear he
                              clear HXB HXG
                              go_wp2
                              go_region
                              go_wp2
                              go_roundw
                              case rel => exact ⟨m + 1, by go_num, by omega, HZ2, Lib.hid ⟨K.out.1.drew, K.out.2.drew⟩⟩
                              case measure => simp [intOf]; omega
                          · have HEn : Hid (∀ (i j : Nat) (x y : ForM), j < i → i < k + 1 → g.forbid[j]? = some x → g.forbid[i]? = some y → forEq x y = false) := Lib.hid (fun i j x' y' hj hi hx' hy' => by
                              by_cases e : i = k
                              · subst e; rw [HX1.out] at hy'; cases hy'; exact hM.out j x' (by omega) hx'
                              · exact hE.out i j x' y' hj (by omega) hx' hy')
                            clear hM hE
                            obtain rfl : k = m := by omega
                            go_wp2
                            go_roundw
                            case rel => exact ⟨k + 1, by go_num, by omega, HA, HEn, K⟩
                            case measure => simp [intOf]; omega
                    · obtain rfl : n3 = k := by omega
                      have S4 := Lib.hid (fun (i : Nat) (x : ForM) hx => hS.out i x (by have := (List.getElem?_eq_some_iff.1 hx).1; have := N3.out; omega) hx)
                      have S5 := Lib.hid (fun (i j : Nat) (x y : ForM) hj hx hy => hE.out i j x y hj (by have := (List.getElem?_eq_some_iff.1 hy).1; have := N3.out; omega) hx hy)
                      clear hS hE hk hlt
                      go_wp2
                      obtain ⟨wo3, rfl⟩ : ∃ wo : World, wo = wr := ⟨_, rfl⟩
                      go_loopw [8] (fun vi wr => ∃ k : Nat, vi = .int .i64 k ∧ k ≤ n4 ∧ Hid (∀ (i : Nat) (x : FolM), i < k → g.follow[i]? = some x → folB g.sorts.length x = true) ∧ Hid (∀ (i j : Nat) (x y : FolM), j < i → i < k → g.follow[j]? = some x → g.follow[i]? = some y → (x.sort == y.sort) = false) ∧ Hid (Blk wr w.heap.size 27 #[.slice g.sa n1 g.sc, .slice g.pa n2 g.pc, .int .i64 g.start, .slice g.fa n3 g.fc, .slice g.wa n4 g.wc] ∧ Below w.heap.size w wr)) (fun vi _ => n4 - (intOf vi).toNat)
                      case atStart => exact ⟨0, rfl, Nat.zero_le _, Lib.hid (fun j s hj => by omega), Lib.hid (fun i k x y hk hi => by omega), K⟩
                      case round =>
                        clear K c0 c1 c2 c3 c4 l0
                        obtain ⟨k, rfl, hk, hS, hE, K⟩ := hrel
                        obtain ⟨c0, c1, c2, c3, c4⟩ := cells5' K.out.1
                        have l0 := K.out.1.lt
                        by_cases hlt : k < n4
                        · obtain ⟨x, hx⟩ : ∃ x, g.follow[k]? = some x := ⟨_, List.getElem?_eq_getElem (by rw [← N4.out]; exact hlt)⟩
                          obtain ⟨b1, o1, e1, hb1, hc1, hi1⟩ := HG.out.follow k x hx
                          have hb1' := Nat.lt_of_lt_of_le hb1 K.out.2.size
                          have z1 : (k : Int) < (n4 : Int) := by omega
                          have z0 : (0 : Int) ≤ (k : Int) := by omega
                          obtain ⟨x10, x11, x12, x13, x14⟩ := Fol_at (hc1.below K.out.2 hb1)
                          have HXB : Hid (folB g.sorts.length x = false → q = 160) := Lib.hid (HQ.out.e6 k x hx)
                          have E1h := Lib.hid e1
                          have HK : Hid (∀ W, Below wr.heap.size wr W → (W.cell? ⟨w.heap.size, 0, none⟩ = some (.slice g.sa n1 g.sc) ∧ W.cell? ⟨w.heap.size, 1, none⟩ = some (.slice g.pa n2 g.pc) ∧ W.cell? ⟨w.heap.size, 2, none⟩ = some (.int .i64 g.start) ∧ W.cell? ⟨w.heap.size, 3, none⟩ = some (.slice g.fa n3 g.fc) ∧ W.cell? ⟨w.heap.size, 4, none⟩ = some (.slice g.wa n4 g.wc)) ∧ W.cell? ⟨w.heap.size, 4, none⟩ = some (.slice (some ⟨b1, o1, none⟩) n4 g.wc) ∧ W.cell? ⟨b1, o1 + k * 5, none⟩ = some (.int .i64 x.sort) ∧ (W.cell? ⟨b1, o1 + k * 5 + 1, none⟩ = some (.int .u64 (wdI x.not 0)) ∧ W.cell? ⟨b1, o1 + k * 5 + 1 + 1, none⟩ = some (.int .u64 (wdI x.not 1)) ∧ W.cell? ⟨b1, o1 + k * 5 + 1 + 2, none⟩ = some (.int .u64 (wdI x.not 2)) ∧ W.cell? ⟨b1, o1 + k * 5 + 1 + 3, none⟩ = some (.int .u64 (wdI x.not 3)))) := Lib.hid (fun W hW => by
                            have k1 := K.out.1.below hW K.out.1.lt
                            have k2 := Fol_at ((hc1.below K.out.2 hb1).below hW hb1')
                            exact ⟨cells5' k1, by rw [← E1h.out]; exact (cells5' k1).2.2.2.2, k2⟩)
                          obtain ⟨r, hr⟩ : ∃ r, r = numB x.sort n1 := ⟨_, rfl⟩
                          obtain ⟨z, hz⟩ : ∃ z, z = (x.not == 0#256) := ⟨_, rfl⟩
                          have HRR : Hid (numB x.sort g.sorts.length = r) := Lib.hid (by rw [hr, N1.out])
                          have HZZ : Hid ((x.not == 0#256) = z) := Lib.hid hz.symm
                          have HC1 : ∀ W, Hid (Calls Tryz.prog 41 #[.agg #[.slice g.sa n1 g.sc, .slice g.pa n2 g.pc, .int .i64 g.start, .slice g.fa n3 g.fc, .slice g.wa n4 g.wc], .int .i64 x.sort] W fun e w' => e = .returned (.bool r) ∧ Below W.heap.size W w') := fun W => Lib.hid (by rw [hr]; exact (HSo x.sort W).out)
                          have HC2 : ∀ W, Hid (Calls Tryz.prog 44 #[.agg #[.int .u64 (wdI x.not 0), .int .u64 (wdI x.not 1), .int .u64 (wdI x.not 2), .int .u64 (wdI x.not 3)]] W fun e w' => e = .returned (.bool z) ∧ Below W.heap.size W w') := fun W => Lib.hid (by rw [hz]; exact empty_any x.not W)
                          have hkn : k < n4 := hlt
                          have hN : ∀ W : World, Below W.heap.size W W := fun W => Below.refl _ W
                          clear e1 hr hz
                          go_wp2
                          cases r with
                          | false =>
                            refine wp_region_vals0 (N := fun W W' => Below W.heap.size W W') (S := fun W => Below wr.heap.size wr W)
                              [.agg #[.slice g.sa n1 g.sc, .slice g.pa n2 g.pc, .int .i64 g.start, .slice g.fa n3 g.fc, .slice g.wa n4 g.wc], .pointer (some ⟨w.heap.size, 4, none⟩), .slice (some ⟨b1, o1, none⟩) n4 g.wc, .int .i64 (k : Nat), .pointer (some ⟨b1, o1 + k * 5, none⟩), .pointer (some ⟨b1, o1 + k * 5, none⟩), .int .i64 x.sort, .bool false, .bool true, .bool true, undef, undef, undef, undef, undef, undef, undef, .bool true]
                              #[.agg #[.slice g.sa n1 g.sc, .slice g.pa n2 g.pc, .int .i64 g.start, .slice g.fa n3 g.fc, .slice g.wa n4 g.wc], .pointer (some ⟨w.heap.size, 0, none⟩), u2, .int .i64 (n1 : Nat), u4, .int .i64 (n2 : Nat), .int .i64 (n3 : Nat), u7, .int .i64 (k : Nat), u9, .pointer (some ⟨w.heap.size, 0, none⟩), .slice g.sa n1 g.sc, .int .i64 (n1 : Nat), .bool false, .bool false, .pointer (some ⟨w.heap.size, 0, none⟩), .slice g.sa n1 g.sc, .int .i64 (n1 : Nat), .bool false, .bool false, .bool false, .pointer (some ⟨w.heap.size, 1, none⟩), .slice g.pa n2 g.pc, .int .i64 (n2 : Nat), .bool false, .bool false, .bool false, .agg #[.slice g.sa n1 g.sc, .slice g.pa n2 g.pc, .int .i64 g.start, .slice g.fa n3 g.fc, .slice g.wa n4 g.wc], .pointer (some ⟨w.heap.size, 2, none⟩), .int .i64 g.start, .bool true, .bool false, .bool false, .int .i64 (n1 : Nat), .pointer (some ⟨w.heap.size, 0, none⟩), .slice g.sa n1 g.sc, .int .i64 (n1 : Nat), .bool false, u38, u39, u40, u41, u42, u43, u44, u45, u46, u47, u48, u49, u50, u51, u52, u53, u54, u55, u56, u57, u58, u59, u60, u61, u62, u63, u64, u65, u66, u67, u68, u69, u70, .int .i64 (n2 : Nat), .pointer (some ⟨w.heap.size, 1, none⟩), .slice g.pa n2 g.pc, .int .i64 (n2 : Nat), .bool false, u76, u77, u78, u79, u80, u81, u82, u83, u84, u85, .int .i64 (n3 : Nat), .pointer (some ⟨w.heap.size, 3, none⟩), .slice g.fa n3 g.fc, .int .i64 (n3 : Nat), .bool false, u91, u92, u93, u94, u95, u96, u97, u98, u99, u100, u101, u102, u103, u104, u105, u106, u107, u108, u109, u110, u111, u112, u113, u114, u115, u116, .int .i64 (k : Nat), .pointer (some ⟨w.heap.size, 4, none⟩), .slice g.wa n4 g.wc, .int .i64 (n4 : Nat), .bool true, u122, u123, .agg #[.slice g.sa n1 g.sc, .slice g.pa n2 g.pc, .int .i64 g.start, .slice g.fa n3 g.fc, .slice g.wa n4 g.wc], .pointer (some ⟨w.heap.size, 4, none⟩), .slice (some ⟨b1, o1, none⟩) n4 g.wc, .int .i64 (k : Nat), .pointer (some ⟨b1, o1 + k * 5, none⟩), .pointer (some ⟨b1, o1 + k * 5, none⟩), .int .i64 x.sort, .bool false, .bool true, .bool true, undef, undef, undef, undef, undef, undef, undef, .bool true, u142, u143, u144, u145, u146, u147, u148, u149, u150, u151, u152, u153, u154, u155, u156, u157, u158, u159]
                              rfl (by kernel_rfl) (by kernel_rfl) (by kernel_rfl) hN (Below.refl _ wr).drew (fun W W' h hB => h.trans (hB.mono h.size)) ?_ ?_
                            · refine Each.val 124 (.agg #[.slice g.sa n1 g.sc, .slice g.pa n2 g.pc, .int .i64 g.start, .slice g.fa n3 g.fc, .slice g.wa n4 g.wc]) (by kernel_rfl) (by kernel_rfl) (by kernel_rfl) hN (fun W hS _ => ld27r rfl (by kernel_rfl) (HK.out W hS).1) ?_
                              refine Each.val 125 (.pointer (some ⟨w.heap.size, 4, none⟩)) (by kernel_rfl) (by kernel_rfl) (by kernel_rfl) hN (fun W hS _ => fa27_4 rfl (by kernel_rfl)) ?_
                              refine Each.val 126 (.slice (some ⟨b1, o1, none⟩) n4 g.wc) (by kernel_rfl) (by kernel_rfl) (by kernel_rfl) hN (fun W hS _ => ld25 rfl (by kernel_rfl) (((HK.out W hS).2.1))) ?_
                              refine Each.val 127 (.int .i64 (k : Nat)) (by kernel_rfl) (by kernel_rfl) (by kernel_rfl) hN (fun _ _ _ => by kernel_rfl) ?_
                              refine Each.val 128 (.pointer (some ⟨b1, o1 + k * 5, none⟩)) (by kernel_rfl) (by kernel_rfl) (by kernel_rfl) hN (fun W hS _ => ix25 (c := g.wc) rfl (by kernel_rfl) (by kernel_rfl) hkn rfl) ?_
                              refine Each.val 129 (.pointer (some ⟨b1, o1 + k * 5, none⟩)) (by kernel_rfl) (by kernel_rfl) (by kernel_rfl) hN (fun W hS _ => fa87_0 rfl (by kernel_rfl)) ?_
                              refine Each.val 130 (.int .i64 x.sort) (by kernel_rfl) (by kernel_rfl) (by kernel_rfl) hN (fun W hS _ => ld3 rfl (by kernel_rfl) (((HK.out W hS).2.2.1))) ?_
                              refine Each.call 131 (.bool false) 41 #[.agg #[.slice g.sa n1 g.sc, .slice g.pa n2 g.pc, .int .i64 g.start, .slice g.fa n3 g.fc, .slice g.wa n4 g.wc], .int .i64 x.sort] (by kernel_rfl) (by kernel_rfl) (by kernel_rfl) (fun _ _ => by kernel_rfl) (fun W hS => (HC1 W).out) ?_
                              refine Each.val 132 (.bool true) (by kernel_rfl) (by kernel_rfl) (by kernel_rfl) hN (fun _ _ _ => by kernel_rfl) ?_
                              refine Each.val 133 (.bool true) (by kernel_rfl) (by kernel_rfl) (by kernel_rfl) hN (fun _ _ _ => by kernel_rfl) ?_
                              refine Each.off 134 (by kernel_rfl) (by kernel_rfl) (by kernel_rfl) ?_
                              refine Each.off 135 (by kernel_rfl) (by kernel_rfl) (by kernel_rfl) ?_
                              refine Each.off 136 (by kernel_rfl) (by kernel_rfl) (by kernel_rfl) ?_
                              refine Each.off 137 (by kernel_rfl) (by kernel_rfl) (by kernel_rfl) ?_
                              refine Each.off 138 (by kernel_rfl) (by kernel_rfl) (by kernel_rfl) ?_
                              refine Each.off 139 (by kernel_rfl) (by kernel_rfl) (by kernel_rfl) ?_
                              refine Each.off 140 (by kernel_rfl) (by kernel_rfl) (by kernel_rfl) ?_
                              refine Each.val 141 (.bool true) (by kernel_rfl) (by kernel_rfl) (by kernel_rfl) hN (fun _ _ _ => by kernel_rfl) ?_
                              exact trivial
                            · intro w' hS2
                              have K3 : Hid (Blk w' w.heap.size 27 #[.slice g.sa n1 g.sc, .slice g.pa n2 g.pc, .int .i64 g.start, .slice g.fa n3 g.fc, .slice g.wa n4 g.wc] ∧ Below w.heap.size w w') := Lib.hid ⟨K.out.1.below hS2 K.out.1.lt, K.out.2.trans (hS2.mono K.out.2.size)⟩
                              clear hS2 hN HC1 HC2 HK c0 c1 c2 c3 c4 l0 x10 x11 x12 x13 x14 K
                              have HE := Lib.hid (HXB.out (by unfold folB; rw [HRR.out]; rfl))
                              clear hS hE HXB hx hc1 hi1
                              go_wp2
                              go_ret
                              exact ⟨by rw [HE.out]; rfl, K3.out.2⟩
                          | true =>
                            refine wp_region_vals0 (N := fun W W' => Below W.heap.size W W') (S := fun W => Below wr.heap.size wr W)
                              [.agg #[.slice g.sa n1 g.sc, .slice g.pa n2 g.pc, .int .i64 g.start, .slice g.fa n3 g.fc, .slice g.wa n4 g.wc], .pointer (some ⟨w.heap.size, 4, none⟩), .slice (some ⟨b1, o1, none⟩) n4 g.wc, .int .i64 (k : Nat), .pointer (some ⟨b1, o1 + k * 5, none⟩), .pointer (some ⟨b1, o1 + k * 5, none⟩), .int .i64 x.sort, .bool true, .bool false, .bool false, .pointer (some ⟨w.heap.size, 4, none⟩), .slice (some ⟨b1, o1, none⟩) n4 g.wc, .int .i64 (k : Nat), .pointer (some ⟨b1, o1 + k * 5, none⟩), .pointer (some ⟨b1, o1 + k * 5 + 1, none⟩), .agg #[.int .u64 (wdI x.not 0), .int .u64 (wdI x.not 1), .int .u64 (wdI x.not 2), .int .u64 (wdI x.not 3)], .bool z, .bool z]
                              #[.agg #[.slice g.sa n1 g.sc, .slice g.pa n2 g.pc, .int .i64 g.start, .slice g.fa n3 g.fc, .slice g.wa n4 g.wc], .pointer (some ⟨w.heap.size, 0, none⟩), u2, .int .i64 (n1 : Nat), u4, .int .i64 (n2 : Nat), .int .i64 (n3 : Nat), u7, .int .i64 (k : Nat), u9, .pointer (some ⟨w.heap.size, 0, none⟩), .slice g.sa n1 g.sc, .int .i64 (n1 : Nat), .bool false, .bool false, .pointer (some ⟨w.heap.size, 0, none⟩), .slice g.sa n1 g.sc, .int .i64 (n1 : Nat), .bool false, .bool false, .bool false, .pointer (some ⟨w.heap.size, 1, none⟩), .slice g.pa n2 g.pc, .int .i64 (n2 : Nat), .bool false, .bool false, .bool false, .agg #[.slice g.sa n1 g.sc, .slice g.pa n2 g.pc, .int .i64 g.start, .slice g.fa n3 g.fc, .slice g.wa n4 g.wc], .pointer (some ⟨w.heap.size, 2, none⟩), .int .i64 g.start, .bool true, .bool false, .bool false, .int .i64 (n1 : Nat), .pointer (some ⟨w.heap.size, 0, none⟩), .slice g.sa n1 g.sc, .int .i64 (n1 : Nat), .bool false, u38, u39, u40, u41, u42, u43, u44, u45, u46, u47, u48, u49, u50, u51, u52, u53, u54, u55, u56, u57, u58, u59, u60, u61, u62, u63, u64, u65, u66, u67, u68, u69, u70, .int .i64 (n2 : Nat), .pointer (some ⟨w.heap.size, 1, none⟩), .slice g.pa n2 g.pc, .int .i64 (n2 : Nat), .bool false, u76, u77, u78, u79, u80, u81, u82, u83, u84, u85, .int .i64 (n3 : Nat), .pointer (some ⟨w.heap.size, 3, none⟩), .slice g.fa n3 g.fc, .int .i64 (n3 : Nat), .bool false, u91, u92, u93, u94, u95, u96, u97, u98, u99, u100, u101, u102, u103, u104, u105, u106, u107, u108, u109, u110, u111, u112, u113, u114, u115, u116, .int .i64 (k : Nat), .pointer (some ⟨w.heap.size, 4, none⟩), .slice g.wa n4 g.wc, .int .i64 (n4 : Nat), .bool true, u122, u123, .agg #[.slice g.sa n1 g.sc, .slice g.pa n2 g.pc, .int .i64 g.start, .slice g.fa n3 g.fc, .slice g.wa n4 g.wc], .pointer (some ⟨w.heap.size, 4, none⟩), .slice (some ⟨b1, o1, none⟩) n4 g.wc, .int .i64 (k : Nat), .pointer (some ⟨b1, o1 + k * 5, none⟩), .pointer (some ⟨b1, o1 + k * 5, none⟩), .int .i64 x.sort, .bool true, .bool false, .bool false, .pointer (some ⟨w.heap.size, 4, none⟩), .slice (some ⟨b1, o1, none⟩) n4 g.wc, .int .i64 (k : Nat), .pointer (some ⟨b1, o1 + k * 5, none⟩), .pointer (some ⟨b1, o1 + k * 5 + 1, none⟩), .agg #[.int .u64 (wdI x.not 0), .int .u64 (wdI x.not 1), .int .u64 (wdI x.not 2), .int .u64 (wdI x.not 3)], .bool z, .bool z, u142, u143, u144, u145, u146, u147, u148, u149, u150, u151, u152, u153, u154, u155, u156, u157, u158, u159]
                              rfl (by kernel_rfl) (by kernel_rfl) (by kernel_rfl) hN (Below.refl _ wr).drew (fun W W' h hB => h.trans (hB.mono h.size)) ?_ ?_
                            · refine Each.val 124 (.agg #[.slice g.sa n1 g.sc, .slice g.pa n2 g.pc, .int .i64 g.start, .slice g.fa n3 g.fc, .slice g.wa n4 g.wc]) (by kernel_rfl) (by kernel_rfl) (by kernel_rfl) hN (fun W hS _ => ld27r rfl (by kernel_rfl) (HK.out W hS).1) ?_
                              refine Each.val 125 (.pointer (some ⟨w.heap.size, 4, none⟩)) (by kernel_rfl) (by kernel_rfl) (by kernel_rfl) hN (fun W hS _ => fa27_4 rfl (by kernel_rfl)) ?_
                              refine Each.val 126 (.slice (some ⟨b1, o1, none⟩) n4 g.wc) (by kernel_rfl) (by kernel_rfl) (by kernel_rfl) hN (fun W hS _ => ld25 rfl (by kernel_rfl) (((HK.out W hS).2.1))) ?_
                              refine Each.val 127 (.int .i64 (k : Nat)) (by kernel_rfl) (by kernel_rfl) (by kernel_rfl) hN (fun _ _ _ => by kernel_rfl) ?_
                              refine Each.val 128 (.pointer (some ⟨b1, o1 + k * 5, none⟩)) (by kernel_rfl) (by kernel_rfl) (by kernel_rfl) hN (fun W hS _ => ix25 (c := g.wc) rfl (by kernel_rfl) (by kernel_rfl) hkn rfl) ?_
                              refine Each.val 129 (.pointer (some ⟨b1, o1 + k * 5, none⟩)) (by kernel_rfl) (by kernel_rfl) (by kernel_rfl) hN (fun W hS _ => fa87_0 rfl (by kernel_rfl)) ?_
                              refine Each.val 130 (.int .i64 x.sort) (by kernel_rfl) (by kernel_rfl) (by kernel_rfl) hN (fun W hS _ => ld3 rfl (by kernel_rfl) (((HK.out W hS).2.2.1))) ?_
                              refine Each.call 131 (.bool true) 41 #[.agg #[.slice g.sa n1 g.sc, .slice g.pa n2 g.pc, .int .i64 g.start, .slice g.fa n3 g.fc, .slice g.wa n4 g.wc], .int .i64 x.sort] (by kernel_rfl) (by kernel_rfl) (by kernel_rfl) (fun _ _ => by kernel_rfl) (fun W hS => (HC1 W).out) ?_
                              refine Each.val 132 (.bool false) (by kernel_rfl) (by kernel_rfl) (by kernel_rfl) hN (fun _ _ _ => by kernel_rfl) ?_
                              refine Each.val 133 (.bool false) (by kernel_rfl) (by kernel_rfl) (by kernel_rfl) hN (fun _ _ _ => by kernel_rfl) ?_
                              refine Each.val 134 (.pointer (some ⟨w.heap.size, 4, none⟩)) (by kernel_rfl) (by kernel_rfl) (by kernel_rfl) hN (fun W hS _ => fa27_4 rfl (by kernel_rfl)) ?_
                              refine Each.val 135 (.slice (some ⟨b1, o1, none⟩) n4 g.wc) (by kernel_rfl) (by kernel_rfl) (by kernel_rfl) hN (fun W hS _ => ld25 rfl (by kernel_rfl) (((HK.out W hS).2.1))) ?_
                              refine Each.val 136 (.int .i64 (k : Nat)) (by kernel_rfl) (by kernel_rfl) (by kernel_rfl) hN (fun _ _ _ => by kernel_rfl) ?_
                              refine Each.val 137 (.pointer (some ⟨b1, o1 + k * 5, none⟩)) (by kernel_rfl) (by kernel_rfl) (by kernel_rfl) hN (fun W hS _ => ix25 (c := g.wc) rfl (by kernel_rfl) (by kernel_rfl) hkn rfl) ?_
                              refine Each.val 138 (.pointer (some ⟨b1, o1 + k * 5 + 1, none⟩)) (by kernel_rfl) (by kernel_rfl) (by kernel_rfl) hN (fun W hS _ => fa87_1 rfl (by kernel_rfl)) ?_
                              refine Each.val 139 (.agg #[.int .u64 (wdI x.not 0), .int .u64 (wdI x.not 1), .int .u64 (wdI x.not 2), .int .u64 (wdI x.not 3)]) (by kernel_rfl) (by kernel_rfl) (by kernel_rfl) hN (fun W hS _ => ld47 rfl (by kernel_rfl) ((HK.out W hS).2.2.2)) ?_
                              refine Each.call 140 (.bool z) 44 #[.agg #[.int .u64 (wdI x.not 0), .int .u64 (wdI x.not 1), .int .u64 (wdI x.not 2), .int .u64 (wdI x.not 3)]] (by kernel_rfl) (by kernel_rfl) (by kernel_rfl) (fun _ _ => by kernel_rfl) (fun W hS => (HC2 W).out) ?_
                              refine Each.val 141 (.bool z) (by kernel_rfl) (by kernel_rfl) (by kernel_rfl) hN (fun _ _ _ => by kernel_rfl) ?_
                              exact trivial
                            · intro w' hS2
                              have K3 : Hid (Blk w' w.heap.size 27 #[.slice g.sa n1 g.sc, .slice g.pa n2 g.pc, .int .i64 g.start, .slice g.fa n3 g.fc, .slice g.wa n4 g.wc] ∧ Below w.heap.size w w') := Lib.hid ⟨K.out.1.below hS2 K.out.1.lt, K.out.2.trans (hS2.mono K.out.2.size)⟩
                              clear hS2 hN HC1 HC2 HK c0 c1 c2 c3 c4 l0 x10 x11 x12 x13 x14 K
                              cases z with
                              | true =>
                                have HE := Lib.hid (HXB.out (by unfold folB; rw [HRR.out, HZZ.out]; rfl))
                                clear hS hE HXB hx hc1 hi1
                                go_wp2
                                go_ret
                                exact ⟨by rw [HE.out]; rfl, K3.out.2⟩
                              | false =>
                                have HX : Hid (folB g.sorts.length x = true) := Lib.hid (by unfold folB; rw [HRR.out, HZZ.out]; rfl)
                                have HA : Hid (∀ (i : Nat) (y : FolM), i < k + 1 → g.follow[i]? = some y → folB g.sorts.length y = true) := Lib.hid (fun i y hi hy => by
                                  by_cases e : i = k
                                  · subst e; rw [hx] at hy; cases hy; exact HX.out
                                  · exact hS.out i y (by omega) hy)
                                clear hS HXB HX HRR HZZ
                                obtain ⟨c0, c1, c2, c3, c4⟩ := cells5' K3.out.1
                                have l0 := K3.out.1.lt
                                obtain ⟨wz, rfl⟩ : ∃ z : World, z = wr := ⟨_, rfl⟩
                                obtain ⟨wr, rfl⟩ : ∃ z : World, z = w' := ⟨_, rfl⟩
                                have e1 := E1h.out
                                have HX1 := Lib.hid hx
                                have E1 := Lib.hid e1
                                have HC1 := Lib.hid hc1
                                clear hx e1 hc1 hi1
                                go_wp2
                                obtain ⟨wo, rfl⟩ : ∃ wo : World, wo = wr := ⟨_, rfl⟩
                                go_loopw [9] (fun vi wr => ∃ m : Nat, vi = .int .i64 m ∧ m ≤ k ∧ Hid (∀ (j : Nat) (y : FolM), j < m → g.follow[j]? = some y → (y.sort == x.sort) = false) ∧ Hid (Blk wr w.heap.size 27 #[.slice g.sa n1 g.sc, .slice g.pa n2 g.pc, .int .i64 g.start, .slice g.fa n3 g.fc, .slice g.wa n4 g.wc] ∧ Below w.heap.size w wr)) (fun vi _ => k - (intOf vi).toNat)
                                case atStart => exact ⟨0, rfl, Nat.zero_le _, Lib.hid (fun j s hj => by omega), K3⟩
                                case round =>
                                  clear K3 c0 c1 c2 c3 c4 l0
                                  obtain ⟨m, rfl, hm, hM, K⟩ := hrel
                                  obtain ⟨c0, c1, c2, c3, c4⟩ := cells5' K.out.1
                                  have l0 := K.out.1.lt
                                  by_cases hml : m < k
                                  · obtain ⟨y, hy⟩ : ∃ y, g.follow[m]? = some y := ⟨_, List.getElem?_eq_getElem (by have := (List.getElem?_eq_some_iff.1 HX1.out).1; omega)⟩
                                    obtain ⟨b2, o2, e2, hb2, hc2, _⟩ := HG.out.follow m y hy
                                    obtain rfl : b1 = b2 := by rw [E1.out] at e2; simpa using congrArg (fun a => a.map (·.block)) e2
                                    obtain rfl : o1 = o2 := by rw [E1.out] at e2; simpa using congrArg (fun a => a.map (·.off)) e2
                                    have zz1 : (m : Int) < (k : Int) := by omega
                                    have zz2 : (m : Int) < (n4 : Int) := by omega
                                    have zz0 : (0 : Int) ≤ (m : Int) := by omega
                                    have hb2' := Nat.lt_of_lt_of_le hb1 K.out.2.size
                                    obtain ⟨x10, x11, x12, x13, x14⟩ := Fol_at (HC1.out.below K.out.2 hb1)
                                    obtain ⟨x20, x21, x22, x23, x24⟩ := Fol_at (hc2.below K.out.2 hb1)
                                    have HXB : Hid ((y.sort == x.sort) = true → q = 160) := Lib.hid (HQ.out.e7 k m y x hml hy HX1.out)
                                    have HXG : Hid ((y.sort == x.sort) = false → ∀ (j : Nat) (y : FolM), j < m + 1 → g.follow[j]? = some y → (y.sort == x.sort) = false) := Lib.hid (fun h j y' hj hy' => by
                                      by_cases e : j = m
                                      · subst e; rw [hy] at hy'; cases hy'; exact h
                                      · exact hM.out j y' (by omega) hy')
                                    rw [E1.out] at c4
                                    clear hy hc2 hM e2
                                    cases he : (y.sort == x.sort) with
                                    | true =>
                                      have HE := Lib.hid (HXB.out he)
                                      clear HXB HXG
                                      go_wp2
                                      go_region
                                      go_wp2
                                      go_ret
                                      exact ⟨by rw [HE.out]; rfl, K.out.2.drew⟩
                                    | false =>
                                      have HZ2 := Lib.hid (HXG.out he)
                                      clear HXB HXG
                                      go_wp2
                                      go_region
                                      go_wp2
                                      go_roundw
                                      case rel => exact ⟨m + 1, by go_num, by omega, HZ2, Lib.hid ⟨K.out.1.drew, K.out.2.drew⟩⟩
                                      case measure => simp [intOf]; omega
                                  · have HEn : Hid (∀ (i j : Nat) (x y : FolM), j < i → i < k + 1 → g.follow[j]? = some x → g.follow[i]? = some y → (x.sort == y.sort) = false) := Lib.hid (fun i j x' y' hj hi hx' hy' => by
                                      by_cases e : i = k
                                      · subst e; rw [HX1.out] at hy'; cases hy'; exact hM.out j x' (by omega) hx'
                                      · exact hE.out i j x' y' hj (by omega) hx' hy')
                                    clear hM hE
                                    obtain rfl : k = m := by omega
                                    go_wp2
                                    go_roundw
                                    case rel => exact ⟨k + 1, by go_num, by omega, HA, HEn, K⟩
                                    case measure => simp [intOf]; omega
                        · obtain rfl : n4 = k := by omega
                          have S6 := Lib.hid (fun (i : Nat) (x : FolM) hx => hS.out i x (by have := (List.getElem?_eq_some_iff.1 hx).1; have := N4.out; omega) hx)
                          have S7 := Lib.hid (fun (i j : Nat) (x y : FolM) hj hx hy => hE.out i j x y hj (by have := (List.getElem?_eq_some_iff.1 hy).1; have := N4.out; omega) hx hy)
                          have HE := Lib.hid (HQ.out.yes H0.out.1 H0.out.2.1 H0.out.2.2 HR3.out S1.out S2.out S3.out S4.out S5.out S6.out S7.out)
                          clear HQ HPr HFo HSo S1 S2 S3 S4 S5 S6 S7 hS hE
                          go_wp2
                          go_ret
                          exact ⟨by rw [HE.out]; rfl, K.out.2⟩
end Go.Proofs.YtodnlcbnbkkanaaGreatDoor
end
section
namespace Go.Proofs.YtodnlcbnbkkanaaGreatDoor
open Go Go.RowKit

set_option maxRecDepth 100000 in
set_option maxHeartbeats 4000000 in
/-- The reference's Reached. -/
theorem rreached_any (g : GramM) (hm : MayB g) (hf : Fit g) (u : Bool) (w : World) (hg : GIn w g) :
    Calls Tryz.prog 19 #[gramV g, .bool u] w fun e w' => ∃ L R, Live g L ∧ ReachU g u L R ∧ e = .returned (.slice (some ⟨w.heap.size + 1, 0, none⟩) R.length R.length) ∧ Blk w' (w.heap.size + 1) 4 (bools R) ∧ Below w.heap.size w w' := by
  have HG := Lib.hid hg
  have hmk := fun w' => make_bools g.sorts.length hm.sorts2 w'
  have HM := Lib.hid hm
  have HF := Lib.hid hf
  have hn1 := hm.sorts2
  have hn2 := hm.prods
  obtain ⟨st, hst, hstn⟩ := hm.start
  have hz : (w.alloc (.cells (gramC g) 27)).heap.size = w.heap.size + 1 := by simp
  obtain ⟨W1, hW1⟩ : ∃ W1, W1 = (w.alloc (.cells (gramC g) 27)).alloc (.cells (bools (List.replicate g.sorts.length false)) 4) := ⟨_, rfl⟩
  have hs1 : W1.heap.size = w.heap.size + 1 + 1 := by rw [hW1]; simp
  have HB1 : Hid (Below w.heap.size w W1) := Lib.hid (by rw [hW1]; exact ((Below.refl _ w).alloc (Nat.le_refl _) _).alloc (by simp) _)
  have HK0 : Hid (Blk W1 w.heap.size 27 (gramC g)) := Lib.hid (by rw [hW1]; exact (Blk.new w 27 (gramC g)).alloc _)
  have HK1 : Hid (Blk W1 (w.heap.size + 1) 4 (bools (List.replicate g.sorts.length false))) := Lib.hid (by
    have hb2 := Blk.new (w.alloc (.cells (gramC g) 27)) 4 (bools (List.replicate g.sorts.length false))
    rw [World.size_alloc] at hb2
    rw [hW1]; exact hb2)
  have HP0 := Lib.hid (rproductive_any g hm hf W1 (hg.below HB1.out))
  rw [hs1] at HP0
  have HSt : Hid (∀ (L : List Bool) (w3 : World), Blk w3 (w.heap.size + 1 + 1 + 1) 4 (bools L) → Below (w.heap.size + 1 + 1) W1 w3 →
      RJ g u L w (w3.setCell ⟨w.heap.size + 1, st, none⟩ (.bool true)) ((List.replicate g.sorts.length false).set st true) ∧ 0 + ((List.replicate g.sorts.length false).set st true).count false ≤ g.sorts.length) := Lib.hid fun L w3 h2 hB => by
    rw [← hs1] at hB
    refine ⟨⟨(HK0.out.below hB HK0.out.lt).other (by show w.heap.size ≠ w.heap.size + 1; omega) _, by rw [← bools_set]; exact (HK1.out.below hB HK1.out.lt).set st _, h2.other (by show w.heap.size + 1 + 1 + 1 ≠ w.heap.size + 1; omega) _,
      (HB1.out.trans (hB.mono (by omega))).setCell (p := ⟨w.heap.size + 1, st, none⟩) (by show w.heap.size ≤ w.heap.size + 1; omega) _, by simp, by rw [hst, Int.toNat_natCast]; simp [hstn], fun k hk => ?_⟩, ?_⟩
    · rw [List.getElem?_set] at hk
      split at hk
      · next e => subst e; rw [hst, Int.toNat_natCast]; exact .refl
      · rw [List.getElem?_replicate] at hk
        split at hk <;> simp at hk
    · have := List.count_le_length (a := false) (l := (List.replicate g.sorts.length false).set st true)
      simp at this ⊢
      omega
  have HRep : Hid (∀ w3 : World, Below (w.heap.size + 1 + 1) W1 w3 → Blk w3 w.heap.size 27 (gramC g) ∧ Blk w3 (w.heap.size + 1) 4 (bools (List.replicate g.sorts.length false)) ∧ w.heap.size + 1 < w3.heap.size) := Lib.hid fun w3 hB => by
    rw [← hs1] at hB
    exact ⟨HK0.out.below hB HK0.out.lt, HK1.out.below hB HK1.out.lt, (HK1.out.below hB HK1.out.lt).lt⟩
  have HEnd : Hid (∀ (L : List Bool) (W : World) (R : List Bool), RJ g u L w W R → (ClosedU g u L R ∨ g.sorts.length + R.count false ≤ g.sorts.length) → ReachU g u L R) := Lib.hid fun L W R h hc => by
    refine reachU_of h.len h.st h.sound ?_
    rcases hc with hc | hc
    · exact hc
    · intro x hx _ _ s hs hk
      obtain ⟨t, ht, htn⟩ := hm.sym x hx s hs hk
      refine lv_some ?_
      rw [ht, Int.toNat_natCast, List.getElem?_eq_getElem (by rw [h.len]; exact htn)]
      cases e : R[t]'(by rw [h.len]; exact htn) with
      | true => rfl
      | false =>
        have : false ∈ R := by rw [← e]; exact List.getElem_mem _
        have := List.count_pos_iff.2 this
        omega
  have HW1 := Lib.hid hW1
  obtain ⟨RL, hRL⟩ : ∃ RL : List Bool, RL = List.replicate g.sorts.length false := ⟨_, rfl⟩
  have hRl : RL.length = g.sorts.length := by rw [hRL]; simp
  rw [← hRL] at HW1 hmk HSt HRep
  have HR3 : Hid (RL.length = g.sorts.length) := Lib.hid hRl
  clear hRL hRl HK0 HK1 HB1 hW1 hs1 hz
  obtain ⟨n, hn⟩ : ∃ n, n = g.sorts.length := ⟨_, rfl⟩
  obtain ⟨np, hnp⟩ : ∃ n, n = g.prods.length := ⟨_, rfl⟩
  have N1 := Lib.hid hn
  have N2 := Lib.hid hnp
  have ST := Lib.hid hst
  rw [← hn] at hn1 hmk hstn HR3 HSt
  rw [← hnp] at hn2
  clear hm hf hg
  unfold gramV gramC
  unfold gramV gramC at HP0
  unfold gramC at HW1 HRep
  rw [← hn, ← hnp, hst] at HP0 HW1 ⊢
  rw [← hn, ← hnp, hst] at HRep
  clear hn hnp hst
  have z3 : (st : Int) < (n : Int) := by omega
  have z4 : (0 : Int) ≤ (st : Int) := by omega
  go_enter Tryz.func19, Tryz.ntmps19
  go_wp2_with fail
  rw [← HW1.out]
  with_reducible refine HP0.out.mono ?_
  rintro e w3 ⟨L, hLv, rfl, hq4, hB4⟩
  obtain ⟨HRep0, HRep1, l4⟩ := HRep.out w3 hB4
  have c2 := HRep0.cell 2
  simp only [List.getElem?_toArray, List.getElem?_cons_zero, List.getElem?_cons_succ] at c2
  have l3 := HRep0.lt
  have f1 := HRep1.frozen st
  have q1 := HRep1.cell st
  rw [bools_at RL st (by rw [HR3.out]; exact hstn)] at q1
  have HS0 := Lib.hid (HSt.out L w3 hq4 hB4)
  have HLl : Hid (L.length = n) := Lib.hid (by rw [N1.out]; exact hLv.1)
  have HLv := Lib.hid hLv
  have HLen := HLl.out
  rw [HLl.out]
  clear HRep0 HRep1 hq4 hB4 hLv HRep HSt HP0 HW1 hmk HLen
  go_wp2
  go_loopw [7] (fun vi wr => ∃ r : Nat, vi = .int .i64 r ∧ r ≤ n ∧ ∃ M, Hid (RJ g u L w wr M ∧ (ClosedU g u L M ∨ r + M.count false ≤ g.sorts.length))) (fun vi _ => n - (intOf vi).toNat)
  case atStart => exact ⟨0, rfl, Nat.zero_le _, RL.set st true, Lib.hid ⟨HS0.out.1, .inr (by rw [← N1.out]; exact HS0.out.2)⟩⟩
  case round =>
    clear HS0 c2 f1 q1 l3 l4
    obtain ⟨r, rfl, hr, M0, K⟩ := hrel
    obtain ⟨c0, c1, c2, c3, c4⟩ := K.out.1.b0.gram
    rw [← N1.out] at c0
    rw [← N2.out] at c1
    have l0 := K.out.1.b0.lt
    by_cases hlt : r < n
    · have z1 : (r : Int) < (n : Int) := by omega
      have K0 : Hid (RJ g u L w wr M0 ∧ RS g.sorts.length r (ClosedU g u L M0) M0 (PQ g u L M0 0) M0) := Lib.hid ⟨K.out.1, .inl ⟨rfl, PQ.zero _ _ _ _, K.out.2⟩⟩
      clear K
      go_wp2
      obtain ⟨wo, rfl⟩ : ∃ wo : World, wo = wr := ⟨_, rfl⟩
      go_loopw [8] (fun vj wr => ∃ j : Nat, vj = .int .i64 j ∧ j ≤ np ∧ ∃ M, Hid (RJ g u L w wr M ∧ RS g.sorts.length r (ClosedU g u L M0) M0 (PQ g u L M0 j) M)) (fun vj _ => np - (intOf vj).toNat)
      case atStart => exact ⟨0, rfl, Nat.zero_le _, M0, K0⟩
      case round =>
        clear K0 c0 c1 c2 c3 c4 l0
        obtain ⟨j, rfl, hj, M, K⟩ := hrel
        obtain ⟨c0, c1, c2, c3, c4⟩ := K.out.1.b0.gram
        rw [← N1.out] at c0
        rw [← N2.out] at c1
        have l0 := K.out.1.b0.lt
        by_cases hlj : j < np
        · obtain ⟨x, hx⟩ : ∃ x, g.prods[j]? = some x := ⟨_, List.getElem?_eq_getElem (by rw [← N2.out]; exact hlj)⟩
          obtain ⟨b1, o1, e1, hb1, hc1, hi1⟩ := HG.out.prods j x hx
          obtain ⟨x0, x1, x2, x3, x4, x5, x6⟩ := Prod_at (hc1.below K.out.1.b hb1)
          have hb1' := Nat.lt_of_lt_of_le hb1 K.out.1.b.size
          have z2 : (j : Int) < (np : Int) := by omega
          have z0 : (0 : Int) ≤ (j : Int) := by omega
          have hxm := List.mem_of_getElem? hx
          obtain ⟨k, hk, hkn⟩ := HM.out.left x hxm
          have q1 := K.out.1.b1.cell k
          rw [bools_at M k (by rw [K.out.1.len]; exact hkn)] at q1
          have l1 := K.out.1.b1.lt
          have hA : Below wr.heap.size wr (wr.alloc (.cells (prodC x) 65)) := (Below.refl _ _).alloc (Nat.le_refl _) _
          have HA : Hid (RJ g u L w (wr.alloc (.cells (prodC x) 65)) M ∧ Blk (wr.alloc (.cells (prodC x) 65)) wr.heap.size 65 (prodC x)) := Lib.hid ⟨K.out.1.below hA, Blk.new wr 65 _⟩
          have HSkip : Hid ((useB u L x = false ∨ lv M (k : Int) = false) → RS g.sorts.length r (ClosedU g u L M0) M0 (PQ g u L M0 (j + 1)) M) := Lib.hid fun h => K.out.2.imp fun e hq => hq.skip hx (by rw [hk, ← e]; exact h)
          have HQ0 : Hid (RS g.sorts.length r (ClosedU g u L M0) M0 (PX g u L M0 j x 0) M) := Lib.hid (K.out.2.imp fun _ hq => hq.px x)
          have HX := Lib.hid hx
          have HK := Lib.hid hk
          have HR := Lib.hid (hi1.below K.out.1.b)
          have HXm := Lib.hid hxm
          have HU : Hid (useB u L x = (!(x.role == 11) && (!u || okP L x))) := Lib.hid rfl
          have hrl := HM.out.right x hxm
          have HC := Lib.hid (can_any x L (some ⟨w.heap.size + 1 + 1 + 1, 0, none⟩) n (wr.alloc (.cells (prodC x) 65)) ((hi1.below K.out.1.b).below hA) HA.out.1.b2.row (HF.out.right x hxm) (by rw [HLl.out]; omega) (fun s hs hk => by rw [HLl.out, N1.out]; exact HM.out.sym x hxm s hs hk))
          rw [HLl.out] at HC
          rw [e1] at c1
          rw [hk] at x0
          have hkn' : (k : Int) < (n : Int) := by have := N1.out; omega
          have z5 : (0 : Int) ≤ (k : Int) := by omega
          have HKn := Lib.hid hkn
          obtain ⟨nr, hnr⟩ : ∃ m, m = x.right.length := ⟨_, rfl⟩
          have N3 := Lib.hid hnr
          unfold prodV prodC at HC
          unfold prodC at HA
          rw [← hnr] at x1 HC HA hrl
          rw [hk] at HC HA
          clear hx hc1 hi1 e1 hxm hk hkn hnr hA
          cases k0 : (x.role == 11) with
          | true =>
            have HE := Lib.hid (HSkip.out (.inl (by rw [HU.out, k0]; rfl)))
            clear K HSkip HQ0 HC HR
            go_wp2
            go_roundw
            case rel => exact ⟨j + 1, by go_num, by omega, M, Lib.hid ⟨HA.out.1, HE.out⟩⟩
            case measure => simp [intOf]; omega
          | false =>
            obtain ⟨v, hv⟩ : ∃ v, v = lv M (k : Int) := ⟨_, rfl⟩
            rw [← hv] at q1 HSkip
            have HV := Lib.hid hv
            clear hv
            cases v with
            | false =>
              have HE := Lib.hid (HSkip.out (.inr rfl))
              clear K HSkip HQ0 HC HR
              go_wp2
              go_roundw
              case rel => exact ⟨j + 1, by go_num, by omega, M, Lib.hid ⟨HA.out.1, HE.out⟩⟩
              case measure => simp [intOf]; omega
            | true =>
              cases u with
              | false =>
                have HUse : Hid (useB false L x = true) := Lib.hid (by rw [HU.out, k0]; rfl)
                have K3 : Hid (RJ g false L w (wr.alloc (.cells #[.int .i64 k, .slice x.ra nr x.rc, .string x.cons, .int .i64 x.role, .bool x.prefer, .bool x.avoid, .int .i64 x.frm] 65)) M ∧ Blk (wr.alloc (.cells #[.int .i64 k, .slice x.ra nr x.rc, .string x.cons, .int .i64 x.role, .bool x.prefer, .bool x.avoid, .int .i64 x.frm] 65)) wr.heap.size 65 #[.int .i64 k, .slice x.ra nr x.rc, .string x.cons, .int .i64 x.role, .bool x.prefer, .bool x.avoid, .int .i64 x.frm]) := HA
                clear K HSkip HC HA
                go_wp2
                obtain ⟨wb, rfl⟩ : ∃ wb : World, wb = wr := ⟨_, rfl⟩
                go_loopw [10] (fun vm wq => ∃ m : Nat, vm = .int .i64 m ∧ m ≤ nr ∧ ∃ M', Hid ((RJ g false L w wq M' ∧ Blk wq wb.heap.size 65 #[.int .i64 k, .slice x.ra nr x.rc, .string x.cons, .int .i64 x.role, .bool x.prefer, .bool x.avoid, .int .i64 x.frm]) ∧ lv M' (k : Int) = true ∧ RS g.sorts.length r (ClosedU g false L M0) M0 (PX g false L M0 j x m) M')) (fun vm _ => nr - (intOf vm).toNat)
                case atStart => exact ⟨0, rfl, Nat.zero_le _, M, Lib.hid ⟨K3.out, HV.out.symm, HQ0.out⟩⟩
                case round =>
                  clear K3 HQ0 HV
                  clear c0 c1 c2 c3 c4 x0 x1 x2 x3 x4 x5 x6 q1 l0 hb1' HR
                  obtain ⟨m, rfl, hmn, M', K⟩ := hrel
                  obtain ⟨p0, p1, p2, p3, p4, p5, p6⟩ := cells7g K.out.1.2
                  have lp := K.out.1.2.lt
                  by_cases hlm : m < nr
                  · obtain ⟨s, hs⟩ : ∃ s, x.right[m]? = some s := ⟨_, List.getElem?_eq_getElem (by rw [← N3.out]; exact hlm)⟩
                    obtain ⟨_, _, _, _, _, hix⟩ := HG.out.prods j x HX.out
                    obtain ⟨b2, o2, e2, hb2, hc2, _⟩ := hix m s hs
                    have hB := K.out.1.1.b
                    obtain ⟨y0, y1, y2, y3, y4, y5⟩ := Sym_at (hc2.below hB hb2)
                    have hb2' := Nat.lt_of_lt_of_le hb2 hB.size
                    have z6 : (m : Int) < (nr : Int) := by omega
                    have z7 : (0 : Int) ≤ (m : Int) := by omega
                    rw [e2] at p1
                    have hsm := List.mem_of_getElem? hs
                    have HNo : Hid (s.kind ≠ 1 → RS g.sorts.length r (ClosedU g false L M0) M0 (PX g false L M0 j x (m + 1)) M') := Lib.hid fun h => K.out.2.2.imp fun _ hq => hq.skip hs fun h2 => absurd h2 h
                    have HSy : Hid (s.kind = 1 → ∃ t : Nat, s.sort = t ∧ t < g.sorts.length ∧ RU g false L g.start.toNat t ∧ lv (M'.set t true) (k : Int) = true ∧ RS g.sorts.length r (ClosedU g false L M0) M0 (PX g false L M0 j x (m + 1)) (M'.set t true)) := Lib.hid fun h => by
                      obtain ⟨t, ht, htn⟩ := HM.out.sym x HXm.out s hsm h
                      have hkl := lv_true K.out.2.1
                      rw [Int.toNat_natCast] at hkl
                      refine ⟨t, ht, htn, (K.out.1.1.sound k hkl).step ⟨x, HXm.out, HK.out, HUse.out, s, hsm, h, ht⟩, lv_set K.out.2.1, K.out.2.2.set (by rw [K.out.1.1.len]; exact htn) (fun e hC => ?_) (fun hq h2 => hq.skip hs fun _ => lv_some (by rw [ht, Int.toNat_natCast]; exact h2))⟩
                      have := lv_true (hC x HXm.out HUse.out (by rw [HK.out, ← e]; exact K.out.2.1) s hsm h)
                      rw [ht, Int.toNat_natCast] at this
                      exact this
                    clear hB hs hc2 e2 hsm hix
                    obtain ⟨sk, ss, so⟩ := s
                    dsimp only at *
                    cases k1 : (sk == 1) with
                    | false =>
                      have HE := Lib.hid (HNo.out (by simpa using k1))
                      clear HNo HSy
                      go_wp2
                      go_roundw
                      case rel => exact ⟨m + 1, by go_num, by omega, M', Lib.hid ⟨K.out.1, K.out.2.1, HE.out⟩⟩
                      case measure => simp [intOf]; omega
                    | true =>
                      obtain ⟨t, rfl, htn, hrt, hlt', hE⟩ := HSy.out (by simpa using k1)
                      have HP := Lib.hid (K.out.1.1.set t hrt)
                      have HP2 := Lib.hid (K.out.1.2.other (a := ⟨w.heap.size + 1, t, none⟩) (by show wb.heap.size ≠ w.heap.size + 1; omega) (.bool true))
                      have HE := Lib.hid (And.intro hlt' hE)
                      have f1 := K.out.1.1.b1.frozen t
                      have q2 := K.out.1.1.b1.cell t
                      rw [bools_at M' t (by rw [K.out.1.1.len]; exact htn)] at q2
                      have l9 := K.out.1.1.b1.lt
                      have z8 : (t : Int) < (n : Int) := by have := N1.out; omega
                      have z9 : (0 : Int) ≤ (t : Int) := by omega
                      clear HNo HSy hrt hlt' hE
                      go_wp2
                      go_roundw
                      case rel => exact ⟨m + 1, by go_num, by omega, M'.set t true, Lib.hid ⟨⟨HP.out, HP2.out⟩, HE.out.1, HE.out.2⟩⟩
                      case measure => simp [intOf]; omega
                  · obtain rfl : nr = m := by omega
                    have HD : Hid (RJ g false L w wr M' ∧ RS g.sorts.length r (ClosedU g false L M0) M0 (PQ g false L M0 (j + 1)) M') := Lib.hid ⟨K.out.1.1, K.out.2.2.imp fun _ hq => by rw [N3.out] at hq; exact hq.done HX.out⟩
                    clear K
                    go_wp2
                    go_roundw
                    case rel => exact ⟨j + 1, by go_num, by omega, M', HD⟩
                    case measure => simp [intOf]; omega
              | true =>
                have HUno : Hid (okP L x = false → useB true L x = false) := Lib.hid fun h => by rw [HU.out, k0, h]; rfl
                have HUyes : Hid (okP L x = true → useB true L x = true) := Lib.hid fun h => by rw [HU.out, k0, h]; rfl
                generalize okP L x = c at *
                clear K
                go_wp2_with fail
                with_reducible refine HC.out.mono ?_
                rintro e w4 ⟨rfl, hB4⟩
                have K3 : Hid (RJ g true L w w4 M ∧ Blk w4 wr.heap.size 65 #[.int .i64 k, .slice x.ra nr x.rc, .string x.cons, .int .i64 x.role, .bool x.prefer, .bool x.avoid, .int .i64 x.frm]) := Lib.hid ⟨HA.out.1.below hB4, HA.out.2.below hB4 HA.out.2.lt⟩
                clear hB4 HA HC c0 c1 c2 c3 c4 x0 x1 x2 x3 x4 x5 x6 q1
                cases c with
                | false =>
                  have HE := Lib.hid (HSkip.out (.inl (HUno.out rfl)))
                  clear HSkip HQ0 HR
                  go_wp2
                  go_roundw
                  case rel => exact ⟨j + 1, by go_num, by omega, M, Lib.hid ⟨K3.out.1, HE.out⟩⟩
                  case measure => simp [intOf]; omega
                | true =>
                  have HUse := Lib.hid (HUyes.out rfl)
                  clear HSkip
                  go_wp2
                  obtain ⟨wb, rfl⟩ : ∃ wb : World, wb = wr := ⟨_, rfl⟩
                  go_loopw [10] (fun vm wq => ∃ m : Nat, vm = .int .i64 m ∧ m ≤ nr ∧ ∃ M', Hid ((RJ g true L w wq M' ∧ Blk wq wb.heap.size 65 #[.int .i64 k, .slice x.ra nr x.rc, .string x.cons, .int .i64 x.role, .bool x.prefer, .bool x.avoid, .int .i64 x.frm]) ∧ lv M' (k : Int) = true ∧ RS g.sorts.length r (ClosedU g true L M0) M0 (PX g true L M0 j x m) M')) (fun vm _ => nr - (intOf vm).toNat)
                  case atStart => exact ⟨0, rfl, Nat.zero_le _, M, Lib.hid ⟨K3.out, HV.out.symm, HQ0.out⟩⟩
                  case round =>
                    clear K3 HQ0 HV
                    skip
                    obtain ⟨m, rfl, hmn, M', K⟩ := hrel
                    obtain ⟨p0, p1, p2, p3, p4, p5, p6⟩ := cells7g K.out.1.2
                    have lp := K.out.1.2.lt
                    by_cases hlm : m < nr
                    · obtain ⟨s, hs⟩ : ∃ s, x.right[m]? = some s := ⟨_, List.getElem?_eq_getElem (by rw [← N3.out]; exact hlm)⟩
                      obtain ⟨_, _, _, _, _, hix⟩ := HG.out.prods j x HX.out
                      obtain ⟨b2, o2, e2, hb2, hc2, _⟩ := hix m s hs
                      have hB := K.out.1.1.b
                      obtain ⟨y0, y1, y2, y3, y4, y5⟩ := Sym_at (hc2.below hB hb2)
                      have hb2' := Nat.lt_of_lt_of_le hb2 hB.size
                      have z6 : (m : Int) < (nr : Int) := by omega
                      have z7 : (0 : Int) ≤ (m : Int) := by omega
                      rw [e2] at p1
                      have hsm := List.mem_of_getElem? hs
                      have HNo : Hid (s.kind ≠ 1 → RS g.sorts.length r (ClosedU g true L M0) M0 (PX g true L M0 j x (m + 1)) M') := Lib.hid fun h => K.out.2.2.imp fun _ hq => hq.skip hs fun h2 => absurd h2 h
                      have HSy : Hid (s.kind = 1 → ∃ t : Nat, s.sort = t ∧ t < g.sorts.length ∧ RU g true L g.start.toNat t ∧ lv (M'.set t true) (k : Int) = true ∧ RS g.sorts.length r (ClosedU g true L M0) M0 (PX g true L M0 j x (m + 1)) (M'.set t true)) := Lib.hid fun h => by
                        obtain ⟨t, ht, htn⟩ := HM.out.sym x HXm.out s hsm h
                        have hkl := lv_true K.out.2.1
                        rw [Int.toNat_natCast] at hkl
                        refine ⟨t, ht, htn, (K.out.1.1.sound k hkl).step ⟨x, HXm.out, HK.out, HUse.out, s, hsm, h, ht⟩, lv_set K.out.2.1, K.out.2.2.set (by rw [K.out.1.1.len]; exact htn) (fun e hC => ?_) (fun hq h2 => hq.skip hs fun _ => lv_some (by rw [ht, Int.toNat_natCast]; exact h2))⟩
                        have := lv_true (hC x HXm.out HUse.out (by rw [HK.out, ← e]; exact K.out.2.1) s hsm h)
                        rw [ht, Int.toNat_natCast] at this
                        exact this
                      clear hB hs hc2 e2 hsm hix
                      obtain ⟨sk, ss, so⟩ := s
                      dsimp only at *
                      cases k1 : (sk == 1) with
                      | false =>
                        have HE := Lib.hid (HNo.out (by simpa using k1))
                        clear HNo HSy
                        go_wp2
                        go_roundw
                        case rel => exact ⟨m + 1, by go_num, by omega, M', Lib.hid ⟨K.out.1, K.out.2.1, HE.out⟩⟩
                        case measure => simp [intOf]; omega
                      | true =>
                        obtain ⟨t, rfl, htn, hrt, hlt', hE⟩ := HSy.out (by simpa using k1)
                        have HP := Lib.hid (K.out.1.1.set t hrt)
                        have HP2 := Lib.hid (K.out.1.2.other (a := ⟨w.heap.size + 1, t, none⟩) (by show wb.heap.size ≠ w.heap.size + 1; omega) (.bool true))
                        have HE := Lib.hid (And.intro hlt' hE)
                        have f1 := K.out.1.1.b1.frozen t
                        have q2 := K.out.1.1.b1.cell t
                        rw [bools_at M' t (by rw [K.out.1.1.len]; exact htn)] at q2
                        have l9 := K.out.1.1.b1.lt
                        have z8 : (t : Int) < (n : Int) := by have := N1.out; omega
                        have z9 : (0 : Int) ≤ (t : Int) := by omega
                        clear HNo HSy hrt hlt' hE
                        go_wp2
                        go_roundw
                        case rel => exact ⟨m + 1, by go_num, by omega, M'.set t true, Lib.hid ⟨⟨HP.out, HP2.out⟩, HE.out.1, HE.out.2⟩⟩
                        case measure => simp [intOf]; omega
                    · obtain rfl : nr = m := by omega
                      have HD : Hid (RJ g true L w wr M' ∧ RS g.sorts.length r (ClosedU g true L M0) M0 (PQ g true L M0 (j + 1)) M') := Lib.hid ⟨K.out.1.1, K.out.2.2.imp fun _ hq => by rw [N3.out] at hq; exact hq.done HX.out⟩
                      clear K
                      go_wp2
                      go_roundw
                      case rel => exact ⟨j + 1, by go_num, by omega, M', HD⟩
                      case measure => simp [intOf]; omega
        · obtain rfl : np = j := by omega
          have HD : Hid (RJ g u L w wr M ∧ (ClosedU g u L M ∨ r + 1 + M.count false ≤ g.sorts.length)) := Lib.hid ⟨K.out.1, by
            have h := K.out.2
            rw [N2.out] at h
            rcases h with ⟨rfl, h, _⟩ | h
            · exact .inl h.closed
            · exact .inr h⟩
          clear K
          go_wp2
          go_roundw
          case rel => exact ⟨r + 1, by go_num, by omega, M, HD⟩
          case measure => simp [intOf]; omega
    · obtain rfl : n = r := by omega
      have HR := Lib.hid (HEnd.out L wr M0 K.out.1 (by have := K.out.2; rw [N1.out] at this; exact this))
      have hl := K.out.1.len
      rw [← N1.out] at hl
      have Hl := Lib.hid hl
      have HKb := Lib.hid K.out.1
      clear K hl
      go_wp2
      go_ret
      exact ⟨L, M0, HLv.out, HR.out, by first | rw [Hl.out, HR3.out] | rw [Hl.out]; rfl, HKb.out.b1, HKb.out.b⟩
end Go.Proofs.YtodnlcbnbkkanaaGreatDoor
end
