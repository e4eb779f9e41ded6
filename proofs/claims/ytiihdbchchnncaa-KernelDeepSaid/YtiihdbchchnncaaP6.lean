import Derived.Test.YtiihdbchchnncaaP5
namespace Go.Proofs.Ytiihdbchchnncaa
open Go Go.RowKit

/-- Where the first one stands that is not told. -/
def deadI (L : List Bool) : Int := firstI (fun b => !b) L
/-- Well's answer. -/
def WellP (g : GramM) (r : Int × Int) : Prop :=
  if checkB g then ∃ L, Live g L ∧ ((0 ≤ deadI L ∧ r = (161, deadI L)) ∨ (deadI L < 0 ∧ ∃ R, ReachL g L R ∧ r = if 0 ≤ deadI R then (162, deadI R) else (0, 0))) else r = (160, 0)

set_option maxRecDepth 100000 in
set_option maxHeartbeats 2000000 in
theorem well_any (g : GramM) (w : World) (hg : GIn w g) (hf : FitG g) : Calls Try.prog 13 #[gramV g] w fun e w' => ∃ r, WellP g r ∧ e = .returned (.tuple #[.int .i64 r.1, .int .i64 r.2]) ∧ Below w.heap.size w w' := by
  have hB1 : Below w.heap.size w (w.alloc (.cells (gramC g) 27)) := (Below.refl _ _).alloc (Nat.le_refl _) _
  have HCk := Lib.hid (check_any g _ (hg.below hB1) hf)
  have HG := Lib.hid hg
  have HB := Lib.hid hB1
  have HK := Lib.hid (Blk.new w 27 (gramC g))
  have HFit := Lib.hid hf
  have HRes : Hid (∀ r w', WellP g r → Below w.heap.size w w' → ∃ r', WellP g r' ∧ Ending.returned (.tuple #[.int .i64 r.1, .int .i64 r.2]) = Ending.returned (.tuple #[.int .i64 r'.1, .int .i64 r'.2]) ∧ Below w.heap.size w w') := Lib.hid (fun r w' h h2 => ⟨r, h, rfl, h2⟩)
  clear hg hf hB1
  cases hq : checkB g with
  | false =>
    have HP : Hid (WellP g (160, 0)) := Lib.hid (by unfold WellP; rw [hq]; rfl)
    rw [hq] at HCk
    clear hq
    unfold gramV gramC at *
    go_enter Try.func13, Try.ntmps13
    go_wp2_with fail
    refine HCk.out.mono ?_
    rintro e w3 ⟨rfl, hB3⟩
    have HF := Lib.hid (HRes.out _ w3 HP.out (HB.out.trans (hB3.mono HB.out.size)))
    clear hB3
    dsimp only at HF
    have he : errI false = 160 := rfl
    rw [he]
    clear he
    go_wp2
    go_ret2
    exact HF.out
  | true =>
    have hm := mayB_of hq
    have hbig : ∀ L : List Bool, L.length = g.sorts.length → L.length ≤ 1048576 := fun L h => by rw [h]; exact HFit.out.fit.sorts
    have HBig := Lib.hid hbig
    have HPr := Lib.hid (fun W (hW : Below w.heap.size w W) => productive_any g hm HFit.out.fit W (HG.out.below hW))
    have HRe := Lib.hid (fun L (hL : L.length = g.sorts.length) W (hW : Below w.heap.size w W) aL cL hrow => reached_any g hm L hL W (HG.out.below hW) aL cL hrow)
    have HP1 : Hid (∀ L, Live g L → 0 ≤ deadI L → WellP g (161, deadI L)) := Lib.hid (fun L h1 h2 => by unfold WellP; rw [hq]; exact ⟨L, h1, .inl ⟨h2, rfl⟩⟩)
    have HP2 : Hid (∀ L R, Live g L → ReachL g L R → deadI L < 0 → 0 ≤ deadI R → WellP g (162, deadI R)) := Lib.hid (fun L R h1 h2 h3 h4 => by unfold WellP; rw [hq]; exact ⟨L, h1, .inr ⟨h3, R, h2, by rw [if_pos h4]⟩⟩)
    have HP3 : Hid (∀ L R, Live g L → ReachL g L R → deadI L < 0 → deadI R < 0 → WellP g (0, 0)) := Lib.hid (fun L R h1 h2 h3 h4 => by unfold WellP; rw [hq]; exact ⟨L, h1, .inr ⟨h3, R, h2, by rw [if_neg (by omega)]⟩⟩)
    rw [hq] at HCk
    have hl0 := HK.out.lt
    clear hq hbig hm
    unfold gramV at *
    unfold gramC at HCk HK HB hl0 ⊢
    have he : errI true = 0 := rfl
    rw [he] at HCk
    clear he
    go_enter Try.func13, Try.ntmps13
    go_wp2_with fail
    refine HCk.out.mono ?_
    rintro e w3 ⟨rfl, hB3⟩
    have HB3 := Lib.hid (HB.out.trans (hB3.mono HB.out.size))
    have HK3 := Lib.hid (HK.out.below hB3 HK.out.lt)
    have c0 := HK3.out.cell 0
    have c1 := HK3.out.cell 1
    have c2 := HK3.out.cell 2
    have c3 := HK3.out.cell 3
    have c4 := HK3.out.cell 4
    have l3 := HK3.out.lt
    simp only [List.getElem?_toArray, List.getElem?_cons_zero, List.getElem?_cons_succ] at c0 c1 c2 c3 c4
    have HPr3 := Lib.hid (HPr.out w3 HB3.out)
    unfold gramC at HPr3
    clear hB3
    go_wp2_with fail
    with_reducible refine HPr3.out.mono ?_
    rintro e w4 ⟨L, hLv, rfl, hq4, hB4⟩
    have HB4 := Lib.hid (HB3.out.trans (hB4.mono HB3.out.size))
    have HK4 := Lib.hid (HK3.out.below hB4 HK3.out.lt)
    have d0 := HK4.out.cell 0
    have d1 := HK4.out.cell 1
    have d2 := HK4.out.cell 2
    have d3 := HK4.out.cell 3
    have d4 := HK4.out.cell 4
    have l4 := HK4.out.lt
    simp only [List.getElem?_toArray, List.getElem?_cons_zero, List.getElem?_cons_succ] at d0 d1 d2 d3 d4
    have HLv := Lib.hid hLv
    have HIx := Lib.hid (indexBool_any (some ⟨w3.heap.size + 1, 0, none⟩) L.length L w4 hq4.row (HBig.out L hLv.1))
    have HRe4 := Lib.hid (HRe.out L hLv.1 w4 HB4.out (some ⟨w3.heap.size + 1, 0, none⟩) L.length hq4.row)
    have HD : Hid (deadI L = firstI (fun b => !b) L) := Lib.hid rfl
    unfold gramC at HRe4
    rw [← HD.out] at HIx
    clear hLv hq4 hB4 c0 c1 c2 c3 c4 HPr3 HPr HRe HD
    obtain ⟨dl, hdl⟩ : ∃ d, d = deadI L := ⟨_, rfl⟩
    rw [← hdl] at HIx
    have HDl := Lib.hid hdl
    clear hdl
    by_cases h1 : 0 ≤ dl
    · have HF := Lib.hid (HRes.out _ w4 (HP1.out L HLv.out (by rw [← HDl.out]; exact h1)) HB4.out)
      rw [← HDl.out] at HF
      dsimp only at HF
      clear HRe4
      go_wp2_with (go_at_call 36; (with_reducible refine HIx.out.mono ?_); rintro e w5 ⟨rfl, rfl⟩)
      go_ret2
      exact HF.out
    · have hneg : dl < 0 := by omega
      go_wp2_with (go_at_call 36; (with_reducible refine HIx.out.mono ?_); rintro e w5 ⟨rfl, rfl⟩)
      with_reducible refine HRe4.out.mono ?_
      rintro e w5 ⟨R, hR, rfl, hq5, hB5⟩
      have HB5 := Lib.hid (HB4.out.trans (hB5.mono HB4.out.size))
      have HIx2 := Lib.hid (indexBool_any (some ⟨w4.heap.size + 1 + 1, 0, none⟩) R.length R w5 hq5.row (HBig.out R hR.1))
      have HD : Hid (deadI R = firstI (fun b => !b) R) := Lib.hid rfl
      rw [← HD.out] at HIx2
      obtain ⟨dr, hdr⟩ : ∃ d, d = deadI R := ⟨_, rfl⟩
      rw [← hdr] at HIx2
      have HDr := Lib.hid hdr
      have HRl := Lib.hid hR
      clear hdr hR hq5 hB5 d0 d1 d2 d3 d4 HRe4 HD
      by_cases h2 : 0 ≤ dr
      · have HF := Lib.hid (HRes.out _ w5 (HP2.out L R HLv.out HRl.out (by rw [← HDl.out]; exact hneg) (by rw [← HDr.out]; exact h2)) HB5.out)
        rw [← HDr.out] at HF
        dsimp only at HF
        go_wp2_with (go_at_call 36; (with_reducible refine HIx2.out.mono ?_); rintro e w6 ⟨rfl, rfl⟩)
        go_ret2
        exact HF.out
      · have HF := Lib.hid (HRes.out _ w5 (HP3.out L R HLv.out HRl.out (by rw [← HDl.out]; exact hneg) (by rw [← HDr.out]; omega)) HB5.out)
        dsimp only at HF
        go_wp2_with (go_at_call 36; (with_reducible refine HIx2.out.mono ?_); rintro e w6 ⟨rfl, rfl⟩)
        go_ret2
        exact HF.out
end Go.Proofs.Ytiihdbchchnncaa
