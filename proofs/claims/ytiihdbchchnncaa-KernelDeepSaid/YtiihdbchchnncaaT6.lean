import Derived.Test.YtiihdbchchnncaaC12
import Derived.Test.YtiihdbchchnncaaT3
namespace Go.Proofs.Ytiihdbchchnncaa
open Go Go.RowKit Go.Vals

/-- CheckTree's answer. -/
def ctI (g : GramM) (t : TreeM) : Int := if !(checkB g) then 160 else if !(nestB 16384 t) then 3 else if !(treeB g 16384 t) then 163 else 0

set_option maxRecDepth 100000 in
set_option maxHeartbeats 2000000 in
theorem checkTree_any (g : GramM) (t : TreeM) (w : World) (hg : GIn w g) (hf : FitG g) (ht : TreeIn w t) (hfit : TFit 16384 t) :
    Calls Try.prog 22 #[gramV g, treeV t] w fun e w' => e = .returned (.int .i64 (ctI g t)) ∧ Below w.heap.size w w' := by
  obtain ⟨W1, hW1⟩ : ∃ W, W = (w.alloc (.cells (gramC g) 27)).alloc (.cells (treeC t) 51) := ⟨_, rfl⟩
  have hB1 : Below w.heap.size w W1 := by rw [hW1]; exact ((Below.refl _ _).alloc (Nat.le_refl _) _).alloc (by simp) _
  have hb1 : Blk W1 w.heap.size 27 (gramC g) := by rw [hW1]; exact (Blk.new w 27 (gramC g)).alloc _
  have hb2 : Blk W1 (w.heap.size + 1) 51 (treeC t) := by
    have h := Blk.new (w.alloc (.cells (gramC g) 27)) 51 (treeC t)
    rw [World.size_alloc] at h
    rw [hW1]; exact h
  have HB := Lib.hid hB1
  have HCk := Lib.hid (check_any g W1 (hg.below hB1) hf)
  have HNe := Lib.hid (fun W (hW : Below W1.heap.size W1 W) => nested_any 16384 (by omega) t W (TreeIn.below (hB1.trans (hW.mono hB1.size)) t ht) hfit)
  rw [show ((16384 : Nat) : Int) = 16384 from rfl] at HNe
  have HTr := Lib.hid (fun (h : nestB 16384 t = true) W (hW : Below W1.heap.size W1 W) => isTree_any g hf.fit.right hf.fit.prods 16384 t w.heap.size W (hb1.below hW hb1.lt) (hg.below (hB1.trans (hW.mono hB1.size))) (TreeIn.below (hB1.trans (hW.mono hB1.size)) t ht) hfit h)
  have HR : Hid (ctI g t = if !(checkB g) then 160 else if !(nestB 16384 t) then 3 else if !(treeB g 16384 t) then 163 else 0) := Lib.hid rfl
  have HW := Lib.hid hW1
  have Hb1 := Lib.hid hb1
  have Hb2 := Lib.hid hb2
  have l1 := hb1.lt
  have l2 := hb2.lt
  have c := hb1.gram
  clear hg hf ht hfit hB1 hb1 hb2 hW1
  generalize ctI g t = q at *
  generalize treeB g 16384 t = r3 at *
  cases hc : checkB g with
  | false =>
    have HR3 : Hid (q = 160) := Lib.hid (by rw [HR.out, hc]; rfl)
    rw [hc] at HCk
    have he : errI false = 160 := rfl
    rw [he] at HCk
    clear he hc HR HNe HTr c
    obtain ⟨p, b, ka, kc, kids⟩ := t
    unfold gramV treeV gramC treeC at *
    go_enter Try.func22, Try.ntmps22
    go_wp2_with fail
    rw [← HW.out]
    with_reducible refine HCk.out.mono ?_
    rintro e w3 ⟨rfl, hB3⟩
    have HF := Lib.hid (HB.out.trans (hB3.mono HB.out.size))
    clear hB3
    go_wp2
    go_ret
    exact ⟨by rw [HR3.out]; try rfl, HF.out⟩
  | true =>
    rw [hc] at HCk
    have he : errI true = 0 := rfl
    rw [he] at HCk
    clear he c
    cases hn : nestB 16384 t with
    | false =>
      have HR3 : Hid (q = 3) := Lib.hid (by rw [HR.out, hc, hn]; rfl)
      rw [hn] at HNe
      clear hc hn HR HTr
      obtain ⟨p, b, ka, kc, kids⟩ := t
      unfold gramV treeV gramC treeC at *
      go_enter Try.func22, Try.ntmps22
      go_wp2_with fail
      rw [← HW.out]
      with_reducible refine HCk.out.mono ?_
      rintro e w3 ⟨rfl, hB3⟩
      have HB3 := Lib.hid (HB.out.trans (hB3.mono HB.out.size))
      have hk := Hb2.out.below hB3 Hb2.out.lt
      have d0 := hk.cell 0
      have d1 := hk.cell 1
      have d2 := hk.cell 2
      simp only [List.getElem?_toArray, List.getElem?_cons_zero, List.getElem?_cons_succ] at d0 d1 d2
      have l3 := hk.lt
      have HN3 := Lib.hid (HNe.out w3 hB3)
      clear hB3 hk
      go_wp2_with fail
      with_reducible refine HN3.out.mono ?_
      rintro e w4 ⟨rfl, hB4⟩
      have HF := Lib.hid (HB3.out.trans (hB4.mono HB3.out.size))
      clear hB4
      go_wp2
      go_ret
      exact ⟨by rw [HR3.out]; try rfl, HF.out⟩
    | true =>
      have HR2 : Hid (q = if !r3 then 163 else 0) := Lib.hid (by rw [HR.out, hc, hn]; rfl)
      have HTr := Lib.hid (HTr.out hn)
      rw [hn] at HNe
      clear hc hn HR
      obtain ⟨p, b, ka, kc, kids⟩ := t
      unfold gramV treeV gramC treeC at *
      go_enter Try.func22, Try.ntmps22
      go_wp2_with fail
      rw [← HW.out]
      with_reducible refine HCk.out.mono ?_
      rintro e w3 ⟨rfl, hB3⟩
      have HB3 := Lib.hid (HB.out.trans (hB3.mono HB.out.size))
      have HB3' := Lib.hid hB3
      have hk := Hb2.out.below hB3 Hb2.out.lt
      have d0 := hk.cell 0
      have d1 := hk.cell 1
      have d2 := hk.cell 2
      simp only [List.getElem?_toArray, List.getElem?_cons_zero, List.getElem?_cons_succ] at d0 d1 d2
      have l3 := hk.lt
      have Hk3 := Lib.hid hk
      have HN3 := Lib.hid (HNe.out w3 hB3)
      clear hB3 hk
      go_wp2_with fail
      with_reducible refine HN3.out.mono ?_
      rintro e w4 ⟨rfl, hB4⟩
      have HB4 := Lib.hid (HB3.out.trans (hB4.mono HB3.out.size))
      have hk := Hk3.out.below hB4 Hk3.out.lt
      have f0 := hk.cell 0
      have f1 := hk.cell 1
      have f2 := hk.cell 2
      simp only [List.getElem?_toArray, List.getElem?_cons_zero, List.getElem?_cons_succ] at f0 f1 f2
      have l4 := hk.lt
      have HT4 := Lib.hid (HTr.out w4 (HB3'.out.trans (hB4.mono HB3'.out.size)))
      clear hB4 hk d0 d1 d2
      go_wp2_with fail
      with_reducible refine HT4.out.mono ?_
      rintro e w5 ⟨rfl, hB5⟩
      have HF := Lib.hid (HB4.out.trans (hB5.mono HB4.out.size))
      clear hB5
      cases r3 with
      | false =>
        have HR3 : Hid (q = 163) := Lib.hid (by rw [HR2.out]; rfl)
        go_wp2
        go_ret
        exact ⟨by rw [HR3.out]; try rfl, HF.out⟩
      | true =>
        have HR3 : Hid (q = 0) := Lib.hid (by rw [HR2.out]; rfl)
        go_wp2
        go_ret
        exact ⟨by rw [HR3.out]; try rfl, HF.out⟩
end Go.Proofs.Ytiihdbchchnncaa
