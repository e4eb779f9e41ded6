import Derived.Test.YtiihdbchchnncaaQ1
import Derived.Test.YtiihdbchchnncaaAP
namespace Go.Proofs.Ytiihdbchchnncaa
open Go Go.RowKit

/-- Does a production stay? -/
def stayP (S : List Bool) (x : ProdM) : Bool := lv S x.left && sortsB (lv S) x

set_option maxRecDepth 100000 in
set_option maxHeartbeats 2000000 in
/-- kept's second closure. -/
theorem f72_any (g : GramM) (hm : MayB g) (S : List Bool) (hS : S.length = g.sorts.length) (Bg Bk Bs : Nat) (a : Option Addr) (c : Nat) (i : Nat) (x : ProdM) (hx : g.prods[i]? = some x) (w : World) (hg : GIn w g)
    (hbg : Blk w Bg 27 (gramC g)) (hbk : Blk w Bk 70 #[.func (.func 70) #[] #[.pointer (some ⟨Bs, 0, none⟩)]]) (hbs : Blk w Bs 82 #[.slice a S.length c]) (hrow : RowBool w a S) :
    Calls Try.prog 72 #[.int .i64 (i : Nat), .pointer (some ⟨Bg, 0, none⟩), .pointer (some ⟨Bk, 0, none⟩)] w fun e w' => e = .returned (.bool (stayP S x)) ∧ Below w.heap.size w w' := by
  have hmem := List.mem_of_getElem? hx
  obtain ⟨j, hj, hjn⟩ := hm.left x hmem
  have hB1 : Below w.heap.size w (w.alloc (.cells (prodC x) 46)) := (Below.refl _ _).alloc (Nat.le_refl _) _
  have hcall : ∀ (t : Nat) W, t < g.sorts.length → Below w.heap.size w W → Calls Try.prog 70 #[.int .i64 t, .pointer (some ⟨Bs, 0, none⟩)] W fun e w' => e = .returned (.bool (lv S t)) ∧ Below W.heap.size W w' := fun t W ht hW =>
    f70_any S Bs a c t (by rw [hS]; exact ht) W (hbs.below hW hbs.lt) (hrow.belowN hW)
  have HC := Lib.hid (fun W hW => hcall j W hjn hW)
  have hpi : ProdIn w x := RowOf.mem hg.prods hmem
  have HE := Lib.hid (fun W (hW : Below w.heap.size w W) => eachSort_any x (lv S) 70 #[.pointer (some ⟨Bs, 0, none⟩)] (fun _ _ => by kernel_rfl) W (hpi.below hW) (by have := hm.right x hmem; omega) (fun s hs hk V hV => by
    obtain ⟨t, ht, htn⟩ := hm.sym x hmem s hs hk
    rw [ht]
    exact hcall t V htn (hW.trans (hV.mono hW.size))))
  have HB := Lib.hid hB1
  have HR : Hid (stayP S x = (lv S j && sortsB (lv S) x)) := Lib.hid (by unfold stayP; rw [hj])
  obtain ⟨_, g1, _, _, _⟩ := hbg.gram
  have HK := Lib.hid hbk
  have hk0 := hbk.cell 0
  simp only [List.getElem?_toArray, List.getElem?_cons_zero] at hk0
  have lg := hbg.lt
  have lk := hbk.lt
  obtain ⟨b, off, hpa, hbw, hc, ht⟩ := hg.prods i x hx
  rw [hpa] at g1
  clear ht
  obtain ⟨c0, c1, c2, c3, c4, c5, c6⟩ := Prod_at hc
  have hi : (i : Int) < (g.prods.length : Int) := by
    have := (List.getElem?_eq_some_iff.1 hx).1
    omega
  have Hbx := Lib.hid (Blk.new w 46 (prodC x))
  clear hbg hbk hbs hrow hg hm hx hpi hc hpa hcall hB1 hmem
  obtain ⟨left, ra, rc, right, cons, role, prefer, avoid, frm⟩ := x
  unfold prodV prodC at *
  dsimp only at *
  subst hj
  generalize stayP S _ = q at *
  generalize sortsB (lv S) _ = r2 at *
  generalize lv S (j : Int) = r1 at *
  cases r1 with
  | false =>
    have HR2 : Hid (q = false) := Lib.hid (by rw [HR.out]; rfl)
    clear HR HE
    go_enter Try.func72, Try.ntmps72
    go_wp2_with fail
    with_reducible refine (HC.out _ HB.out).mono ?_
    rintro e w3 ⟨rfl, hB3⟩
    have HB3 := Lib.hid (HB.out.trans (hB3.mono HB.out.size))
    clear hB3
    go_wp2
    go_ret
    exact ⟨by rw [HR2.out]; try rfl, HB3.out⟩
  | true =>
    have HR2 : Hid (q = r2) := Lib.hid (by rw [HR.out]; rfl)
    clear HR
    go_enter Try.func72, Try.ntmps72
    go_wp2_with fail
    with_reducible refine (HC.out _ HB.out).mono ?_
    rintro e w3 ⟨rfl, hB3⟩
    have HB3 := Lib.hid (HB.out.trans (hB3.mono HB.out.size))
    have hb3 := Hbx.out.below hB3 (by simp)
    have d0 := hb3.cell 0
    have d1 := hb3.cell 1
    have d2 := hb3.cell 2
    have d3 := hb3.cell 3
    have d4 := hb3.cell 4
    have d5 := hb3.cell 5
    have d6 := hb3.cell 6
    have k3 := (HK.out.below HB3.out HK.out.lt).cell 0
    have l3 := hb3.lt
    have l4 := (HK.out.below HB3.out HK.out.lt).lt
    simp only [List.getElem?_toArray, List.getElem?_cons_zero, List.getElem?_cons_succ] at d0 d1 d2 d3 d4 d5 d6 k3
    have HE3 := Lib.hid (HE.out w3 HB3.out)
    clear hB3 hb3 c0 c1 c2 c3 c4 c5 c6 hk0 g1
    go_wp2_with fail
    with_reducible refine HE3.out.mono ?_
    rintro e w4 ⟨rfl, hB4⟩
    have HB4 := Lib.hid (HB3.out.trans (hB4.mono HB3.out.size))
    clear hB4 d0 d1 d2 d3 d4 d5 d6 k3
    go_wp2
    go_ret
    exact ⟨by rw [HR2.out]; try rfl, HB4.out⟩
end Go.Proofs.Ytiihdbchchnncaa
