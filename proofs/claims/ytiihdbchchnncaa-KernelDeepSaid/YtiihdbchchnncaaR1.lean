import Derived.Deep.RegionHeld2
import Derived.Test.YtiihdbchchnncaaP6
import Derived.Test.YtiihdbchchnncaaQ5
namespace Go.Proofs.Ytiihdbchchnncaa
open Go Go.RowKit

def zeroG : GramM := ⟨none, 0, [], none, 0, [], 0, none, 0, [], none, 0, []⟩
/-- Trim's answer. -/
def TrimP (g : GramM) (e : Ending) (w' : World) : Prop :=
  if checkB g then ∃ L, Live g L ∧ ((lv L g.start = false ∧ e = .returned (.tuple #[gramV zeroG, .int .i64 161])) ∨ (lv L g.start = true ∧ ∃ R h, ReachL g L R ∧ KeptM g R h ∧ GIn w' h ∧ NilOK h ∧ e = .returned (.tuple #[gramV h, .int .i64 0])))
  else e = .returned (.tuple #[gramV zeroG, .int .i64 160])
theorem cells5 {W : World} {B : Nat} {u0 u1 u2 u3 u4 : Value} (h : Blk W B 27 #[u0, u1, u2, u3, u4]) : W.cell? ⟨B, 0, none⟩ = some u0 ∧ W.cell? ⟨B, 1, none⟩ = some u1 ∧ W.cell? ⟨B, 2, none⟩ = some u2 ∧ W.cell? ⟨B, 3, none⟩ = some u3 ∧ W.cell? ⟨B, 4, none⟩ = some u4 :=
  ⟨h.cell 0, h.cell 1, h.cell 2, h.cell 3, h.cell 4⟩
theorem frz5 {W : World} {B : Nat} {cs : Array Value} (h : Blk W B 27 cs) : W.frozen? ⟨B, 0, none⟩ = false ∧ W.frozen? ⟨B, 1, none⟩ = false ∧ W.frozen? ⟨B, 2, none⟩ = false ∧ W.frozen? ⟨B, 3, none⟩ = false ∧ W.frozen? ⟨B, 4, none⟩ = false :=
  ⟨h.frozen 0, h.frozen 1, h.frozen 2, h.frozen 3, h.frozen 4⟩
/-- Five cells written. -/
def put5 (W : World) (B : Nat) (u0 u1 u2 u3 u4 : Value) : World := ((((W.setCell ⟨B, 0, none⟩ u0).setCell ⟨B, 1, none⟩ u1).setCell ⟨B, 2, none⟩ u2).setCell ⟨B, 3, none⟩ u3).setCell ⟨B, 4, none⟩ u4
theorem Blk.put5 {W : World} {B : Nat} {v0 v1 v2 v3 v4 : Value} (h : Blk W B 27 #[v0, v1, v2, v3, v4]) (u0 u1 u2 u3 u4 : Value) : Blk (put5 W B u0 u1 u2 u3 u4) B 27 #[u0, u1, u2, u3, u4] := by
  have := ((((h.set 0 u0).set 1 u1).set 2 u2).set 3 u3).set 4 u4
  simpa [Ytiihdbchchnncaa.put5] using this
theorem put5_block {W : World} {B k : Nat} (u0 u1 u2 u3 u4 : Value) (h : k ≠ B) : (Ytiihdbchchnncaa.put5 W B u0 u1 u2 u3 u4).heap[k]? = W.heap[k]? := by
  unfold Ytiihdbchchnncaa.put5
  rw [Below.heap_setCell _ ⟨B, 4, none⟩ _ k h, Below.heap_setCell _ ⟨B, 3, none⟩ _ k h, Below.heap_setCell _ ⟨B, 2, none⟩ _ k h, Below.heap_setCell _ ⟨B, 1, none⟩ _ k h, Below.heap_setCell _ ⟨B, 0, none⟩ _ k h]
theorem below_put5 {N : Nat} {w W : World} (h : Below N w W) {B : Nat} (hB : N ≤ B) (u0 u1 u2 u3 u4 : Value) : Below N w (put5 W B u0 u1 u2 u3 u4) :=
  ((((h.setCell (p := ⟨B, 0, none⟩) hB u0).setCell (p := ⟨B, 1, none⟩) hB u1).setCell (p := ⟨B, 2, none⟩) hB u2).setCell (p := ⟨B, 3, none⟩) hB u3).setCell (p := ⟨B, 4, none⟩) hB u4

set_option maxRecDepth 100000 in
set_option maxHeartbeats 2000000 in
theorem trim_any (g : GramM) (w : World) (hg : GIn w g) (hf : FitG g) (hnil : NilOK g) : Calls Try.prog 25 #[gramV g] w fun e w' => TrimP g e w' ∧ Below w.heap.size w w' := by
  obtain ⟨W1, hW1⟩ : ∃ W1, W1 = (w.alloc (.cells (gramC g) 27)).alloc (.cells #[.slice none 0 0, .slice none 0 0, .int .i64 0, .slice none 0 0, .slice none 0 0] 27) := ⟨_, rfl⟩
  have hs1 : W1.heap.size = w.heap.size + 1 + 1 := by rw [hW1]; simp
  have hB1 : Below w.heap.size w W1 := by rw [hW1]; exact ((Below.refl _ _).alloc (Nat.le_refl _) _).alloc (by simp) _
  have hk : Blk W1 w.heap.size 27 (gramC g) := by rw [hW1]; exact (Blk.new w 27 (gramC g)).alloc _
  have hr : Blk W1 (w.heap.size + 1) 27 #[.slice none 0 0, .slice none 0 0, .int .i64 0, .slice none 0 0, .slice none 0 0] := by
    have h := Blk.new (w.alloc (.cells (gramC g) 27)) 27 #[.slice none 0 0, .slice none 0 0, .int .i64 0, .slice none 0 0, .slice none 0 0]
    rw [World.size_alloc] at h
    rw [hW1]; exact h
  have HCk := Lib.hid (check_any g _ (hg.below hB1) hf)
  have HG := Lib.hid hg
  have HB := Lib.hid hB1
  have HK := Lib.hid hk
  have HR := Lib.hid hr
  have HFit := Lib.hid hf
  have HNil := Lib.hid hnil
  have HW1 := Lib.hid hW1
  have hl0 := hk.lt
  have hl1 := hr.lt
  obtain ⟨c0, c1, c2, c3, c4⟩ := cells5 hk
  obtain ⟨f0, f1, f2, f3, f4⟩ := frz5 hr
  clear hg hf hB1 hk hr hW1 hnil hs1
  cases hq : checkB g with
  | false =>
    have HP : Hid (∀ w', TrimP g (.returned (.tuple #[gramV zeroG, .int .i64 160])) w') := Lib.hid (fun w' => by unfold TrimP; rw [hq]; rfl)
    rw [hq] at HCk
    clear hq
    unfold gramV gramC at *
    have he : errI false = 160 := rfl
    rw [he] at HCk
    clear he
    go_enter Try.func25, Try.ntmps25
    go_wp2_with fail
    rw [← HW1.out]
    refine HCk.out.mono ?_
    rintro e w3 ⟨rfl, hB3⟩
    have HR3 := Lib.hid (HR.out.below hB3 HR.out.lt)
    have HB3 := Lib.hid (HB.out.trans (hB3.mono HB.out.size))
    obtain ⟨f0, f1, f2, f3, f4⟩ := frz5 HR3.out
    obtain ⟨b0, b1, b2, b3, b4⟩ := cells5 HR3.out
    have l3 := HR3.out.lt
    clear hB3
    go_wp2
    obtain ⟨WF, hWF⟩ : ∃ W, W = put5 w3 (w.heap.size + 1) (.slice none 0 0) (.slice none 0 0) (.int .i64 0) (.slice none 0 0) (.slice none 0 0) := ⟨_, rfl⟩
    obtain ⟨q0, q1, q2, q3, q4⟩ := cells5 (HR3.out.put5 (.slice none 0 0) (.slice none 0 0) (.int .i64 0) (.slice none 0 0) (.slice none 0 0))
    have HBF := Lib.hid (below_put5 HB3.out (Nat.le_succ w.heap.size) (.slice none 0 0) (.slice none 0 0) (.int .i64 0) (.slice none 0 0) (.slice none 0 0))
    rw [← hWF] at q0 q1 q2 q3 q4 HBF
    unfold put5 at hWF
    rw [← hWF]
    refine bodyPost_ret (v := .tuple #[.agg #[.slice none 0 0, .slice none 0 0, .int .i64 0, .slice none 0 0, .slice none 0 0], .int .i64 160]) (by simp [results, Try.results25, go_sem, q0, q1, q2, q3, q4]) rfl ⟨HP.out _, HBF.out⟩
  | true =>
    have hm := mayB_of hq
    obtain ⟨stn, hst, hstn⟩ := hm.start
    have HM := Lib.hid hm
    have HPr := Lib.hid (fun W (hW : Below w.heap.size w W) => productive_any g hm HFit.out.fit W (HG.out.below hW))
    have HRe := Lib.hid (fun L (hL : L.length = g.sorts.length) W (hW : Below w.heap.size w W) aL cL hrow => reached_any g hm L hL W (HG.out.below hW) aL cL hrow)
    have HKe := Lib.hid (fun R (hR : R.length = g.sorts.length) W (hW : Below w.heap.size w W) aL cL hrow => kept_any g hm HFit.out.fit HNil.out R hR W (HG.out.below hW) aL cL hrow)
    have HP1 : Hid (∀ L w', Live g L → lv L stn = false → TrimP g (.returned (.tuple #[gramV zeroG, .int .i64 161])) w') := Lib.hid (fun L w' h1 h2 => by unfold TrimP; rw [hq]; exact ⟨L, h1, .inl ⟨by rw [hst]; exact h2, rfl⟩⟩)
    have HP2 : Hid (∀ L R h w', Live g L → lv L stn = true → ReachL g L R → KeptM g R h → GIn w' h → NilOK h → TrimP g (.returned (.tuple #[gramV h, .int .i64 0])) w') := Lib.hid (fun L R h w' h1 h2 h3 h4 h5 h6 => by
      unfold TrimP; rw [hq]; exact ⟨L, h1, .inr ⟨by rw [hst]; exact h2, R, h, h3, h4, h5, h6, rfl⟩⟩)
    rw [hq] at HCk
    have HSt := Lib.hid hst
    clear hq hm hst
    have hms := HM.out.sorts2
    unfold gramV at *
    unfold gramC at HCk HK HW1 ⊢
    rw [HSt.out] at HCk HK c2 HW1 ⊢
    have he : errI true = 0 := rfl
    rw [he] at HCk
    clear he
    go_enter Try.func25, Try.ntmps25
    go_wp2_with fail
    rw [← HW1.out]
    refine HCk.out.mono ?_
    rintro e w3 ⟨rfl, hB3⟩
    have HB3 := Lib.hid (HB.out.trans (hB3.mono HB.out.size))
    have HK3 := Lib.hid (HK.out.below hB3 HK.out.lt)
    have HR3 := Lib.hid (HR.out.below hB3 HR.out.lt)
    obtain ⟨c0, c1, c2, c3, c4⟩ := cells5 HK3.out
    have l3 := HK3.out.lt
    have HPr3 := Lib.hid (HPr.out w3 HB3.out)
    unfold gramC at HPr3
    rw [HSt.out] at HPr3
    clear hB3 HPr
    go_wp2_with fail
    with_reducible refine HPr3.out.mono ?_
    rintro e w4 ⟨L, hLv, rfl, hq4, hB4⟩
    have HB4 := Lib.hid (HB3.out.trans (hB4.mono HB3.out.size))
    have HK4 := Lib.hid (HK3.out.below hB4 HK3.out.lt)
    have HR4 := Lib.hid (HR3.out.below hB4 HR3.out.lt)
    obtain ⟨d0, d1, d2, d3, d4⟩ := cells5 HK4.out
    have l4 := HK4.out.lt
    have HLv := Lib.hid hLv
    have hLl := hLv.1
    have e1 := (hq4.cell stn).trans (bools_at L stn (by rw [hLl]; exact hstn))
    have n1 : (stn : Int) < (L.length : Int) := by omega
    have HRe4 := Lib.hid (HRe.out L hLl w4.drew HB4.out.drew (some ⟨w3.heap.size + 1, 0, none⟩) L.length hq4.drew.row)
    unfold gramC at HRe4
    have hd : w4.drew.heap.size = w4.heap.size := rfl
    rw [HSt.out, hd] at HRe4
    clear hd hLl
    clear hLv hB4 HPr3 HRe c0 c1 c2 c3 c4
    cases h1 : lv L (stn : Int) with
    | false =>
      rw [h1] at e1
      have HF := Lib.hid (fun w' => HP1.out L w' HLv.out h1)
      clear h1 HRe4
      obtain ⟨f0, f1, f2, f3, f4⟩ := frz5 HR4.out
      obtain ⟨b0, b1, b2, b3, b4⟩ := cells5 HR4.out
      have l5 := HR4.out.lt
      go_wp2
      obtain ⟨WF, hWF⟩ : ∃ W, W = put5 w4 (w.heap.size + 1) (.slice none 0 0) (.slice none 0 0) (.int .i64 0) (.slice none 0 0) (.slice none 0 0) := ⟨_, rfl⟩
      obtain ⟨q0, q1, q2, q3, q4⟩ := cells5 (HR4.out.put5 (.slice none 0 0) (.slice none 0 0) (.int .i64 0) (.slice none 0 0) (.slice none 0 0))
      have HBF := Lib.hid (below_put5 HB4.out (Nat.le_succ w.heap.size) (.slice none 0 0) (.slice none 0 0) (.int .i64 0) (.slice none 0 0) (.slice none 0 0))
      rw [← hWF] at q0 q1 q2 q3 q4 HBF
      unfold put5 at hWF
      rw [← hWF]
      refine bodyPost_ret (v := .tuple #[.agg #[.slice none 0 0, .slice none 0 0, .int .i64 0, .slice none 0 0, .slice none 0 0], .int .i64 161]) (by simp [results, Try.results25, go_sem, q0, q1, q2, q3, q4]) rfl ⟨HF.out _, HBF.out⟩
    | true =>
      rw [h1] at e1
      have HF := Lib.hid (fun R h w' => HP2.out L R h w' HLv.out h1)
      clear h1 hq4
      have hne : ¬ (w.heap.size + 1 = w.heap.size) := by omega
      go_wp2_with fail
      go_region_held2 (fun W => W.cell? ⟨w.heap.size, 0, none⟩ = some (.slice g.sa g.sorts.length g.sc) ∧ W.cell? ⟨w.heap.size, 1, none⟩ = some (.slice g.pa g.prods.length g.pc) ∧ W.cell? ⟨w.heap.size, 2, none⟩ = some (.int .i64 (stn : Int)) ∧ W.cell? ⟨w.heap.size, 3, none⟩ = some (.slice g.fa g.forbid.length g.fc)
          ∧ W.cell? ⟨w.heap.size, 4, none⟩ = some (.slice g.wa g.follow.length g.wc)) (go_keep)
        (first
          | (go_at_call 37; (with_reducible refine HRe4.out.mono ?_); rintro e w5 ⟨R, hR, rfl, hq5, hB5⟩; have HB5 := Lib.hid (HB4.out.drew.trans (hB5.mono HB4.out.size)); have HK5 := Lib.hid (HK4.out.drew.below hB5 HK4.out.lt); have HR5 := Lib.hid (HR4.out.drew.below hB5 HR4.out.lt); obtain ⟨g0, g1, g2, g3, g4⟩ := cells5 HK5.out; have HKe5 := Lib.hid (HKe.out R hR.1 w5 HB5.out (some ⟨w4.heap.size + 1 + 1, 0, none⟩) R.length hq5.row); unfold gramC at HKe5; rw [HSt.out] at HKe5; have HRL := Lib.hid hR; clear hR hq5 hB5)
          | (go_at_call 53; (with_reducible refine HKe5.out.mono ?_); rintro e w6 ⟨h, rfl, hkm, hgi, hni, hB6⟩; have HB6 := Lib.hid (HB5.out.trans (hB6.mono HB5.out.size)); have HK6 := Lib.hid (HK5.out.below hB6 HK5.out.lt); have HR6 := Lib.hid (HR5.out.below hB6 HR5.out.lt); obtain ⟨g0, g1, g2, g3, g4⟩ := cells5 HK6.out; obtain ⟨f0, f1, f2, f3, f4⟩ := frz5 HR6.out; obtain ⟨b0, b1, b2, b3, b4⟩ := cells5 HR6.out; have l6 := HR6.out.lt; have HKM := Lib.hid hkm; have HGI := Lib.hid hgi; have HNI := Lib.hid hni; clear hkm hgi hni hB6))
      obtain ⟨WF, hWF⟩ : ∃ W, W = put5 w6 (w.heap.size + 1) (.slice h.sa h.sorts.length h.sc) (.slice h.pa h.prods.length h.pc) (.int .i64 h.start) (.slice h.fa h.forbid.length h.fc) (.slice h.wa h.follow.length h.wc) := ⟨_, rfl⟩
      obtain ⟨q0, q1, q2, q3, q4⟩ := cells5 (HR6.out.put5 (.slice h.sa h.sorts.length h.sc) (.slice h.pa h.prods.length h.pc) (.int .i64 h.start) (.slice h.fa h.forbid.length h.fc) (.slice h.wa h.follow.length h.wc))
      have HBF := Lib.hid (below_put5 HB6.out (Nat.le_succ w.heap.size) (.slice h.sa h.sorts.length h.sc) (.slice h.pa h.prods.length h.pc) (.int .i64 h.start) (.slice h.fa h.forbid.length h.fc) (.slice h.wa h.follow.length h.wc))
      have HGF : Hid (GIn WF h) := Lib.hid (HGI.out WF (fun k hk _ => by
        have h5 := HR5.out.lt
        rw [hWF]
        exact put5_block _ _ _ _ _ (by omega)))
      rw [← hWF] at q0 q1 q2 q3 q4 HBF
      unfold put5 at hWF
      rw [← hWF]
      go_wp2
      refine bodyPost_ret (v := .tuple #[.agg #[.slice h.sa h.sorts.length h.sc, .slice h.pa h.prods.length h.pc, .int .i64 h.start, .slice h.fa h.forbid.length h.fc, .slice h.wa h.follow.length h.wc], .int .i64 0]) (by simp [results, Try.results25, go_sem, q0, q1, q2, q3, q4]) rfl ⟨HF.out R h _ HRL.out HKM.out HGF.out HNI.out, HBF.out⟩
end Go.Proofs.Ytiihdbchchnncaa
