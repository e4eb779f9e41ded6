import Derived.Test.YtiihdbchchnncaaC5
import Derived.Test.YtiihdbchchnncaaAStr
namespace Go.Proofs.Ytiihdbchchnncaa
open Go Go.RowKit

/-- May something be forbidden? -/
def forbidB (g : GramM) (f : ForM) : Bool := numB f.parent g.prods.length && (numB f.child g.prods.length && (match g.prods[f.parent.toNat]?, g.prods[f.child.toNat]? with | some p, some c => standB p f.at_ c | _, _ => false))

theorem numB_nat {n : Int} {m : Nat} (h : numB n m = true) : ∃ k : Nat, n = k ∧ k < m := by
  unfold numB at h
  simp at h
  exact ⟨n.toNat, by omega, by omega⟩

theorem Blk.for {w : World} {B : Nat} {f : ForM} (h : Blk w B 78 (forC f)) : w.cell? ⟨B, 0, none⟩ = some (.int .i64 f.parent) ∧ w.cell? ⟨B, 1, none⟩ = some (.int .i64 f.at_) ∧ w.cell? ⟨B, 2, none⟩ = some (.int .i64 f.child) := ⟨h.cell 0, h.cell 1, h.cell 2⟩

set_option maxRecDepth 100000 in
set_option maxHeartbeats 1000000 in
/-- forbidsMayBe's closure. -/
theorem f83_any (f : ForM) (g : GramM) (B : Nat) (w : World) (hg : GIn w g) (hf : Fit g) (hF : FitF f) (hb : Blk w B 27 (gramC g)) :
    Calls Try.prog 83 #[forV f, .pointer (some ⟨B, 0, none⟩)] w fun e w' => e = .returned (.bool (forbidB g f)) ∧ Below w.heap.size w w' := by
  have HB : Hid (Below w.heap.size w (w.alloc (.cells (forC f) 78))) := Lib.hid ((Below.refl _ _).alloc (Nat.le_refl _) _)
  have hlt := hb.lt
  obtain ⟨c0, c1, _, _, _⟩ := hb.gram
  have HG := Lib.hid hg
  have HF := Lib.hid hf
  have HFF := Lib.hid hF
  have HR : Hid (forbidB g f = (numB f.parent g.prods.length && (numB f.child g.prods.length && (match g.prods[f.parent.toNat]?, g.prods[f.child.toNat]? with | some p, some c => standB p f.at_ c | _, _ => false)))) := Lib.hid rfl
  have HN1 := fun w' => Lib.hid (num_any f.parent g.prods.length w')
  have HN2 := fun w' => Lib.hid (num_any f.child g.prods.length w')
  have HB1 := Lib.hid (Blk.new w 78 (forC f))
  clear hg hf hF hb
  generalize forbidB g f = q at *
  obtain ⟨fp, fa, fc⟩ := f
  unfold forV forC at *
  dsimp only at *
  cases h1 : numB fp g.prods.length with
  | false =>
    have HR2 : Hid (q = false) := Lib.hid (by rw [HR.out, h1]; rfl)
    rw [h1] at HN1
    clear HR h1 HN2 HB1
    go_enter Try.func83, Try.ntmps83
    go_wp2_with (go_at_call 42; refine (HN1 _).out.mono ?_; rintro e w3 ⟨rfl, rfl⟩)
    go_ret
    exact ⟨by rw [HR2.out]; try rfl, HB.out⟩
  | true =>
    cases h2 : numB fc g.prods.length with
    | false =>
      have HR2 : Hid (q = false) := Lib.hid (by rw [HR.out, h1, h2]; rfl)
      rw [h1] at HN1
      rw [h2] at HN2
      clear HR h1 h2 HB1
      go_enter Try.func83, Try.ntmps83
      go_wp2_with (first | (go_at_call_of 42 (fp); (with_reducible refine (HN1 _).out.mono ?_); rintro e w3 ⟨rfl, rfl⟩) | (go_at_call_of 42 (fc); (with_reducible refine (HN2 _).out.mono ?_); rintro e w3 ⟨rfl, rfl⟩))
      go_ret
      exact ⟨by rw [HR2.out]; try rfl, HB.out⟩
    | true =>
      obtain ⟨i, rfl, hi⟩ := numB_nat h1
      obtain ⟨j, rfl, hj⟩ := numB_nat h2
      obtain ⟨p, hp⟩ : ∃ p, g.prods[i]? = some p := ⟨_, List.getElem?_eq_getElem hi⟩
      obtain ⟨c, hc⟩ : ∃ c, g.prods[j]? = some c := ⟨_, List.getElem?_eq_getElem hj⟩
      have HR2 : Hid (q = standB p fa c) := Lib.hid (by rw [HR.out, h1, h2, Int.toNat_natCast, Int.toNat_natCast, hp, hc]; rfl)
      rw [h1] at HN1
      rw [h2] at HN2
      obtain ⟨b, off, hpa, hbw, hcp, hpi⟩ := HG.out.prods i p hp
      obtain ⟨b', off', hpa', hbw', hcc, _⟩ := HG.out.prods j c hc
      rw [hpa] at hpa' c1
      cases hpa'
      have hcp := hcp.below HB.out hbw
      have hcc := hcc.below HB.out hbw
      obtain ⟨p0, p1, p2, p3, p4, p5, p6⟩ := Prod_at hcp
      obtain ⟨d0, d1, d2, d3, d4, d5, d6⟩ := Prod_at hcc
      have HC := fun W (hW : Below w.heap.size w W) => standMay_any p c fa W (hpi.below hW) (HF.out.right p (List.mem_of_getElem? hp)) HFF.out.at_.1 HFF.out.at_.2
      have HC2 := fun w' (hW : Below w.heap.size w w') => Lib.hid (HC w' hW)
      have HC3 := Lib.hid HC2
      have hbw2 : b < (w.alloc (.cells #[.int .i64 i, .int .i64 fa, .int .i64 j] 78)).heap.size := by simp; omega
      have hi2 : (i : Int) < (g.prods.length : Int) := by omega
      have hj2 : (j : Int) < (g.prods.length : Int) := by omega
      obtain ⟨e0, e1, e2⟩ := Blk.for (f := ⟨i, fa, j⟩) HB1.out
      dsimp only at e0 e1 e2
      clear HR h1 h2 hcp hcc hpi HC HC2 hp hc HG HF HFF hi hj hpa
      generalize standB p fa c = r at *
      generalize g.prods.length = n at *
      unfold prodV prodC at *
      go_enter Try.func83, Try.ntmps83
      go_wp2_with (first | (go_at_call_of 42 (i); (with_reducible refine (HN1 _).out.mono ?_); rintro e w3 ⟨rfl, rfl⟩) | (go_at_call_of 42 (j); (with_reducible refine (HN2 _).out.mono ?_); rintro e w3 ⟨rfl, rfl⟩))
      refine wp_region_still_tail 14 (by kernel_rfl) (by kernel_rfl) ?_
      show wpStill _ _ (World.drew (w.alloc (.cells #[.int .i64 i, .int .i64 fa, .int .i64 j] 78))) _ _ _
      have HBd := Lib.hid HB.out.drew
      have hlB : B < (w.alloc (.cells #[.int .i64 i, .int .i64 fa, .int .i64 j] 78)).heap.size := by simp; omega
      obtain ⟨W, hW⟩ : ∃ W, W = World.drew (w.alloc (.cells #[.int .i64 i, .int .i64 fa, .int .i64 j] 78)) := ⟨_, rfl⟩
      have kW : ∀ a, W.cell? a = (w.alloc (.cells #[.int .i64 i, .int .i64 fa, .int .i64 j] 78)).cell? a := fun a => by rw [hW]; rfl
      rw [← hW] at HBd ⊢
      simp only [← kW] at p0 p1 p2 p3 p4 p5 p6 d0 d1 d2 d3 d4 d5 d6 e0 e1 e2
      have c1' := (HBd.out.cell (p := ⟨B, 1, none⟩) hlt).trans c1
      have hs : W.heap.size = w.heap.size + 1 := by rw [hW]; simp
      have hbw3 : b < W.heap.size := by omega
      have hlB : B < W.heap.size := by omega
      have HW := Lib.hid hW
      clear kW hW hbw2 c1 c0 hs
      simp only [List.take_succ_cons, List.take_zero, List.drop_succ_cons, List.drop_zero]
      repeat still_step
      refine wpStill_nil ?_
      show wpList _ _ _ _ _ (World.drew (w.alloc (.cells #[.int .i64 i, .int .i64 fa, .int .i64 j] 78)))
      rw [← HW.out]
      clear HW
      go_wp2_with fail
      with_reducible refine (HC3.out _ HBd.out).out.mono ?_
      rintro e w3 ⟨rfl, hB3⟩
      go_wp2
      go_ret
      exact ⟨by rw [HR2.out]; try rfl, HBd.out.trans (hB3.mono HBd.out.size)⟩
end Go.Proofs.Ytiihdbchchnncaa
