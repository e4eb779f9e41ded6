import Derived.StillTailTactics
import Derived.RegionTactic
import Derived.BigRegion
import Derived.Test.YtodnlcbnbkkanaaGreatDoorS1
import Derived.Test.YtodnlcbnbkkanaaGreatDoorS3
import Derived.Test.YtodnlcbnbkkanaaGreatDoorS10
import Derived.Test.YtodnlcbnbkkanaaGreatDoorS11
section
namespace Go.Proofs.YtodnlcbnbkkanaaGreatDoor
open Go Go.RowKit Go.Vals

theorem once_no {α : Type} {eq : α → α → Bool} {l : List α} (i k : Nat) (x y : α) (hk : k < i) (hx : l[k]? = some x) (hy : l[i]? = some y) (h : eq x y = true) : onceA eq [] l = false := by
 cases e : onceA eq [] l with
 | false => rfl
 | true =>
  have h1 := ((onceA_iff eq l []).1 e).2
  rw [List.pairwise_iff_getElem] at h1
  obtain ⟨hkl, hkx⟩ := List.getElem?_eq_some_iff.1 hx
  obtain ⟨hil, hiy⟩ := List.getElem?_eq_some_iff.1 hy
  have h2 := h1 k i hkl hil hk
  rw [hkx, hiy, h] at h2
  cases h2
theorem once_yes {α : Type} {eq : α → α → Bool} {l : List α} (h : ∀ (i k : Nat) (x y : α), k < i → l[k]? = some x → l[i]? = some y → eq x y = false) : onceA eq [] l = true := by
 rw [onceA_iff]
 refine ⟨fun x _ y hy => by simp at hy, ?_⟩
 rw [List.pairwise_iff_getElem]
 intro k i hk hi hki
 exact h i k _ _ hki (List.getElem?_eq_getElem hk) (List.getElem?_eq_getElem hi)

structure CkP (g : GramM) (q : Int) : Prop where
 f0 : g.sorts.length < 1 → q = 160
 f1 : 1000 < g.sorts.length → q = 160
 f2 : 1000 < g.prods.length → q = 160
 f3 : numB g.start g.sorts.length = false → q = 160
 e1 : ∀ (i : Nat) (s : ByteArray), g.sorts[i]? = some s → nameB s = false → q = 160
 e2 : ∀ (i k : Nat) (x y : ByteArray), k < i → g.sorts[k]? = some x → g.sorts[i]? = some y → strEq x y = true → q = 160
 e3 : ∀ (i : Nat) (x : ProdM), g.prods[i]? = some x → prodB g.sorts.length x = false → q = 160
 e4 : ∀ (i : Nat) (x : ForM), g.forbid[i]? = some x → forbidB g x = false → q = 160
 e5 : ∀ (i k : Nat) (x y : ForM), k < i → g.forbid[k]? = some x → g.forbid[i]? = some y → forEq x y = true → q = 160
 e6 : ∀ (i : Nat) (x : FolM), g.follow[i]? = some x → folB g.sorts.length x = false → q = 160
 e7 : ∀ (i k : Nat) (x y : FolM), k < i → g.follow[k]? = some x → g.follow[i]? = some y → (x.sort == y.sort) = true → q = 160
 yes : 1 ≤ g.sorts.length → g.sorts.length ≤ 1000 → g.prods.length ≤ 1000 → numB g.start g.sorts.length = true →
  (∀ (i : Nat) (s : ByteArray), g.sorts[i]? = some s → nameB s = true) → (∀ (i k : Nat) (x y : ByteArray), k < i → g.sorts[k]? = some x → g.sorts[i]? = some y → strEq x y = false) →
  (∀ (i : Nat) (x : ProdM), g.prods[i]? = some x → prodB g.sorts.length x = true) → (∀ (i : Nat) (x : ForM), g.forbid[i]? = some x → forbidB g x = true) →
  (∀ (i k : Nat) (x y : ForM), k < i → g.forbid[k]? = some x → g.forbid[i]? = some y → forEq x y = false) → (∀ (i : Nat) (x : FolM), g.follow[i]? = some x → folB g.sorts.length x = true) →
  (∀ (i k : Nat) (x y : FolM), k < i → g.follow[k]? = some x → g.follow[i]? = some y → (x.sort == y.sort) = false) → q = 0
theorem all_no {α : Type} {p : α → Bool} {l : List α} (i : Nat) (x : α) (hx : l[i]? = some x) (h : p x = false) : l.all p = false := List.all_eq_false.2 ⟨x, List.mem_of_getElem? hx, by rw [h]; simp⟩
theorem all_yes {α : Type} {p : α → Bool} {l : List α} (h : ∀ (i : Nat) (x : α), l[i]? = some x → p x = true) : l.all p = true := List.all_eq_true.2 fun x hx => by
 obtain ⟨i, hi⟩ := List.mem_iff_getElem?.1 hx
 exact h i x hi
theorem once_mapF {α β : Type} [BEq β] [LawfulBEq β] (f : α → β) (l : List α) : onceA (fun a b => a == b) [] (l.map f) = onceA (fun a b => f a == f b) [] l := by
 rw [Bool.eq_iff_iff, onceA_iff, onceA_iff, List.pairwise_map]
 simp
theorem ckP (g : GramM) : CkP g (errI (checkB g)) := by
 have hn : ∀ {b : Bool}, b = false → errI b = 160 := fun h => by rw [h]; rfl
 unfold checkB sortsB' startB prodsB forbidsB followsB
 rw [once_mapF]
 constructor
 ·intro h; refine hn ?_; rw [decide_eq_false (by omega : ¬ 1 ≤ g.sorts.length)]; simp only [Bool.false_and]
 ·intro h; refine hn ?_; rw [decide_eq_false (by omega : ¬ g.sorts.length ≤ 1000)]; simp only [Bool.false_and, Bool.and_false]
 ·intro h; refine hn ?_; rw [decide_eq_false (by omega : ¬ g.prods.length ≤ 1000)]; simp only [Bool.false_and, Bool.and_false]
 ·intro h; refine hn ?_; rw [h]; simp only [Bool.false_and, Bool.and_false]
 ·intro i s h1 h2; refine hn ?_; rw [all_no i s h1 h2]; simp only [Bool.false_and, Bool.and_false]
 ·intro i k x y h0 h1 h2 h3; refine hn ?_; rw [once_no i k x y h0 h1 h2 h3]; simp only [Bool.false_and, Bool.and_false]
 ·intro i s h1 h2; refine hn ?_; rw [all_no i s h1 h2]; simp only [Bool.false_and, Bool.and_false]
 ·intro i s h1 h2; refine hn ?_; rw [all_no i s h1 h2]; simp only [Bool.false_and, Bool.and_false]
 ·intro i k x y h0 h1 h2 h3; refine hn ?_; rw [once_no i k x y h0 h1 h2 h3]; simp only [Bool.false_and, Bool.and_false]
 ·intro i s h1 h2; refine hn ?_; rw [all_no i s h1 h2]; simp only [Bool.false_and, Bool.and_false]
 ·intro i k x y h0 h1 h2 h3; refine hn ?_; rw [once_no (eq := fun a b : FolM => a.sort == b.sort) i k x y h0 h1 h2 h3]; simp only [Bool.false_and, Bool.and_false]
 ·intro a1 a2 a3 a4 a5 a6 a7 a8 a9 a10 a11
  rw [decide_eq_true a1, decide_eq_true a2, decide_eq_true a3, a4, all_yes a5, once_yes a6, all_yes a7, all_yes a8, once_yes a9, all_yes a10, once_yes (eq := fun a b : FolM => a.sort == b.sort) a11]
  rfl

theorem ld27r {w : World} {o : Oper} {ρ : Operand → Value} {x : Operand} {b : Nat} {v0 v1 v2 v3 v4 : Value} (ho : o.op = .load 27 x) (hx : ρ x = .pointer (some ⟨b, 0, none⟩)) (h : w.cell? ⟨b, 0, none⟩ = some v0 ∧ w.cell? ⟨b, 1, none⟩ = some v1 ∧ w.cell? ⟨b, 2, none⟩ = some v2 ∧ w.cell? ⟨b, 3, none⟩ = some v3 ∧ w.cell? ⟨b, 4, none⟩ = some v4) : (execOp ρ o).run Tryz.prog w = .ok (.value (.agg #[v0, v1, v2, v3, v4])) w := by
 obtain ⟨c0, c1, c2, c3, c4⟩ := h
 unfold execOp; rw [ho]; simp only [hx]
 go_simp
theorem ld47 {w : World} {o : Oper} {ρ : Operand → Value} {x : Operand} {b q : Nat} {v0 v1 v2 v3 : Value} (ho : o.op = .load 47 x) (hx : ρ x = .pointer (some ⟨b, q, none⟩)) (h : w.cell? ⟨b, q, none⟩ = some v0 ∧ w.cell? ⟨b, q + 1, none⟩ = some v1 ∧ w.cell? ⟨b, q + 2, none⟩ = some v2 ∧ w.cell? ⟨b, q + 3, none⟩ = some v3) : (execOp ρ o).run Tryz.prog w = .ok (.value (.agg #[v0, v1, v2, v3])) w := by
 obtain ⟨c0, c1, c2, c3⟩ := h
 unfold execOp; rw [ho]; simp only [hx]
 go_simp

set_option maxRecDepth 100000 in
set_option maxHeartbeats 8000000 in
theorem rcheck_any (g : GramM) (w : World) (hg : GIn w g) (hf : FitG g) : Calls Tryz.prog 12 #[gramV g] w fun e w' => e = .returned (.int .i64 (errI (checkB g))) ∧ Below w.heap.size w w' := by
 have HQ := Lib.hid (ckP g)
 obtain ⟨q, hq⟩ : ∃ q, q = errI (checkB g) := ⟨_, rfl⟩
 rw [← hq] at HQ ⊢
 have HG := Lib.hid hg
 have HF := Lib.hid hf
 obtain ⟨m1, m2, _, m3, m4, _, _⟩ := hf.fit
 have K0 : Hid (Blk (w.alloc (.cells (gramC g) 27)) w.heap.size 27 (gramC g) ∧ Below w.heap.size w (w.alloc (.cells (gramC g) 27))) := Lib.hid ⟨Blk.new w 27 _, (Below.refl _ _).alloc (Nat.le_refl _) _⟩
 have HSt := fun W => Lib.hid (rsort_any g g.start W)
 have HSo := fun n W => Lib.hid (rsort_any g n W)
 have HPr := Lib.hid (fun x W (hW : Below w.heap.size w W) (hx : x ∈ g.prods) (hi : ProdIn W x) => rprod_any g x W hi (Nat.le_trans (hf.fit.right x hx) (by unfold maxLen; omega)))
 have HFo := Lib.hid (fun f W (hW : Below w.heap.size w W) (hx : f ∈ g.forbid) => rforbid_any g f W (hg.below hW) hf.fit.prods hf.fit.right (hf.forb f hx))
 obtain ⟨r3, hr3⟩ : ∃ r, r = numB g.start g.sorts.length := ⟨_, rfl⟩
 have HR3 : Hid (numB g.start g.sorts.length = r3) := Lib.hid hr3.symm
 simp only [← hr3] at HSt
 obtain ⟨n1, hn1⟩ : ∃ n, n = g.sorts.length := ⟨_, rfl⟩
 obtain ⟨n2, hn2⟩ : ∃ n, n = g.prods.length := ⟨_, rfl⟩
 obtain ⟨n3, hn3⟩ : ∃ n, n = g.forbid.length := ⟨_, rfl⟩
 obtain ⟨n4, hn4⟩ : ∃ n, n = g.follow.length := ⟨_, rfl⟩
 have N1 := Lib.hid hn1
 have N2 := Lib.hid hn2
 have N3 := Lib.hid hn3
 have N4 := Lib.hid hn4
 unfold gramV gramC prodV prodC forV forC at *
 rw [← hn1] at m1
 rw [← hn2] at m2
 rw [← hn3] at m3
 rw [← hn4] at m4
 simp only [← hn1, ← hn2, ← hn3, ← hn4] at HSt HSo HPr HFo K0 ⊢
 have HBf := Lib.hid K0.out.2
 clear hg hf hq hr3 hn1 hn2 hn3 hn4
 by_cases h0 : n1 < 1
 ·have HE := Lib.hid (HQ.out.f0 (by rw [← N1.out]; exact h0))
  have d0 : decide ((n1 : Int) < 1) = true := by simp; omega
  clear HQ HSt HSo HPr HFo h0
  go_enter Tryz.func12, Tryz.ntmps12
  go_wp2
  go_ret
  exact ⟨by rw [HE.out]; rfl, HBf.out⟩
 ·have d0 : decide ((n1 : Int) < 1) = false := by simp; omega
  by_cases h1 : 1000 < n1
  ·have HE := Lib.hid (HQ.out.f1 (by rw [← N1.out]; exact h1))
   have d1 : decide ((1000 : Int) < (n1 : Int)) = true := by simp; omega
   clear HQ HSt HSo HPr HFo h0 h1
   go_enter Tryz.func12, Tryz.ntmps12
   go_wp2
   go_ret
   exact ⟨by rw [HE.out]; rfl, HBf.out⟩
  ·have d1 : decide ((1000 : Int) < (n1 : Int)) = false := by simp; omega
   by_cases h2 : 1000 < n2
   ·have HE := Lib.hid (HQ.out.f2 (by rw [← N2.out]; exact h2))
    have d2 : decide ((1000 : Int) < (n2 : Int)) = true := by simp; omega
    clear HQ HSt HSo HPr HFo h0 h1 h2
    go_enter Tryz.func12, Tryz.ntmps12
    go_wp2
    go_ret
    exact ⟨by rw [HE.out]; rfl, HBf.out⟩
   ·have d2 : decide ((1000 : Int) < (n2 : Int)) = false := by simp; omega
    cases r3 with
    | false =>
     have HE := Lib.hid (HQ.out.f3 HR3.out)
     clear HQ HSo HPr HFo h0 h1 h2
     go_enter Tryz.func12, Tryz.ntmps12
     go_wp2_with fail
     with_reducible refine (HSt _).out.mono ?_
     rintro e w3 ⟨rfl, hB3⟩
     have HB3 := Lib.hid (HBf.out.trans (hB3.mono HBf.out.size))
     clear hB3
     go_wp2
     go_ret
     exact ⟨by rw [HE.out]; rfl, HB3.out⟩
    | true =>
     have H0 : Hid (1 ≤ g.sorts.length ∧ g.sorts.length ≤ 1000 ∧ g.prods.length ≤ 1000) := Lib.hid (by rw [← N1.out, ← N2.out]; omega)
     clear h0 h1 h2 HBf
     go_enter Tryz.func12, Tryz.ntmps12
     go_wp2_with fail
     with_reducible refine (HSt _).out.mono ?_
     rintro e w3 ⟨rfl, hB3⟩
     have K : Hid (Blk w3 w.heap.size 27 #[.slice g.sa n1 g.sc, .slice g.pa n2 g.pc, .int .i64 g.start, .slice g.fa n3 g.fc, .slice g.wa n4 g.wc] ∧ Below w.heap.size w w3) := Lib.hid ⟨K0.out.1.below hB3 K0.out.1.lt, K0.out.2.trans (hB3.mono K0.out.2.size)⟩
     clear hB3 K0 HSt
     obtain ⟨c0, c1, c2, c3, c4⟩ := cells5' K.out.1
     have l0 := K.out.1.lt
     go_wp2
     go_loopw [3] (fun vi wr => ∃ k : Nat, vi = .int .i64 k ∧ k ≤ n1 ∧ Hid (∀ (i : Nat) (x : ByteArray), i < k → g.sorts[i]? = some x → nameB x = true) ∧ Hid (∀ (i j : Nat) (x y : ByteArray), j < i → i < k → g.sorts[j]? = some x → g.sorts[i]? = some y → strEq x y = false) ∧ Hid (Blk wr w.heap.size 27 #[.slice g.sa n1 g.sc, .slice g.pa n2 g.pc, .int .i64 g.start, .slice g.fa n3 g.fc, .slice g.wa n4 g.wc] ∧ Below w.heap.size w wr)) (fun vi _ => n1 - (intOf vi).toNat)
     case atStart => exact ⟨0, rfl, Nat.zero_le _, Lib.hid (fun j s hj => by omega), Lib.hid (fun i k x y hk hi => by omega), K⟩
     case round =>
      clear K c0 c1 c2 c3 c4 l0
      obtain ⟨k, rfl, hk, hS, hE, K⟩ := hrel
      obtain ⟨c0, c1, c2, c3, c4⟩ := cells5' K.out.1
      have l0 := K.out.1.lt
      by_cases hlt : k < n1
      ·obtain ⟨x, hx⟩ : ∃ x, g.sorts[k]? = some x := ⟨_, List.getElem?_eq_getElem (by rw [← N1.out]; exact hlt)⟩
       obtain ⟨b1, o1, e1, hb1, hc1, hi1⟩ := HG.out.sorts k x hx
       have hb1' := Nat.lt_of_lt_of_le hb1 K.out.2.size
       have z1 : (k : Int) < (n1 : Int) := by omega
       have z0 : (0 : Int) ≤ (k : Int) := by omega
       have x1 := Str_at (hc1.below K.out.2 hb1)
       simp only [Nat.mul_one] at x1
       have HXB : Hid (nameB x = false → q = 160) := Lib.hid (HQ.out.e1 k x hx)
       cases he : x.toList.isEmpty with
       | true =>
        have z2 : x.toList = [] := by simpa using he
        have HE := Lib.hid (HXB.out (by rw [empty_size] at he; have := of_decide_eq_true he; unfold nameB; rw [this]; rfl))
        rw [e1] at c0
        clear hx hc1 hS hE HXB e1
        go_wp2
        go_ret
        exact ⟨by rw [HE.out]; rfl, K.out.2⟩
       | false =>
        have z2 : ¬ x.toList = [] := by simpa using he
        have z3 : 1 ≤ x.size := by rw [empty_size] at he; have := of_decide_eq_false he; omega
        by_cases hl : 1000 < x.size
        ·have z4 : decide ((1000 : Int) < (x.size : Int)) = true := by simp; omega
         have HE := Lib.hid (HXB.out (by unfold nameB; rw [decide_eq_false (by omega : ¬ x.size ≤ 1000), Bool.and_false]))
         rw [e1] at c0
         clear hx hc1 hS hE HXB e1 hl z3
         go_wp2
         go_ret
         exact ⟨by rw [HE.out]; rfl, K.out.2⟩
        ·have z4 : decide ((1000 : Int) < (x.size : Int)) = false := by simp; omega
         have HX : Hid (nameB x = true) := Lib.hid (by unfold nameB; rw [decide_eq_true z3, decide_eq_true (by omega : x.size ≤ 1000)]; rfl)
         have HA : Hid (∀ (i : Nat) (y : ByteArray), i < k + 1 → g.sorts[i]? = some y → nameB y = true) := Lib.hid (fun i y hi hy => by
          by_cases e : i = k
          ·subst e; rw [hx] at hy; cases hy; exact HX.out
          ·exact hS.out i y (by omega) hy)
         clear hS HXB HX hl z3
         have C0 := Lib.hid c0
         have E10 := Lib.hid e1
         rw [e1] at c0
         have HX1 := Lib.hid hx
         have E1 := Lib.hid e1
         have HC1 := Lib.hid hc1
         clear hx e1 hc1 hi1
         go_wp2
         obtain ⟨wo, rfl⟩ : ∃ wo : World, wo = wr := ⟨_, rfl⟩
         go_loopw [4] (fun vi wr => ∃ m : Nat, vi = .int .i64 m ∧ m ≤ k ∧ Hid (∀ (j : Nat) (y : ByteArray), j < m → g.sorts[j]? = some y → strEq y x = false) ∧ Hid (Blk wr w.heap.size 27 #[.slice g.sa n1 g.sc, .slice g.pa n2 g.pc, .int .i64 g.start, .slice g.fa n3 g.fc, .slice g.wa n4 g.wc] ∧ Below w.heap.size w wr)) (fun vi _ => k - (intOf vi).toNat)
         case atStart => exact ⟨0, rfl, Nat.zero_le _, Lib.hid (fun j s hj => by omega), K⟩
         case round =>
          clear K c0 c1 c2 c3 c4 l0
          obtain ⟨m, rfl, hm, hM, K⟩ := hrel
          obtain ⟨c0, c1, c2, c3, c4⟩ := cells5' K.out.1
          have l0 := K.out.1.lt
          by_cases hml : m < k
          ·obtain ⟨y, hy⟩ : ∃ y, g.sorts[m]? = some y := ⟨_, List.getElem?_eq_getElem (by have := (List.getElem?_eq_some_iff.1 HX1.out).1; omega)⟩
           obtain ⟨b2, o2, e2, hb2, hc2, _⟩ := HG.out.sorts m y hy
           obtain rfl : b1 = b2 := by rw [E1.out] at e2; simpa using congrArg (fun a => a.map (·.block)) e2
           obtain rfl : o1 = o2 := by rw [E1.out] at e2; simpa using congrArg (fun a => a.map (·.off)) e2
           have zz1 : (m : Int) < (k : Int) := by omega
           have zz2 : (m : Int) < (n1 : Int) := by omega
           have zz0 : (0 : Int) ≤ (m : Int) := by omega
           have hb2' := Nat.lt_of_lt_of_le hb1 K.out.2.size
           have x1 := Str_at (HC1.out.below K.out.2 hb1)
           have x2 := Str_at (hc2.below K.out.2 hb1)
           simp only [Nat.mul_one] at x1 x2
           have HXB : Hid (strEq y x = true → q = 160) := Lib.hid (HQ.out.e2 k m y x hml hy HX1.out)
           have HXG : Hid (strEq y x = false → ∀ (j : Nat) (y : ByteArray), j < m + 1 → g.sorts[j]? = some y → strEq y x = false) := Lib.hid (fun h j y' hj hy' => by
            by_cases e : j = m
            ·subst e; rw [hy] at hy'; cases hy'; exact h
            ·exact hM.out j y' (by omega) hy')
           rw [E1.out] at c0
           clear hy hc2 hM e2
           by_cases he : y.data.toList = x.data.toList
           ·have g1 : (y.toList == x.toList) = true := by rw [toList_data, toList_data, he]; simp
            have HE := Lib.hid (HXB.out (by unfold strEq; simpa using he))
            clear he
            clear HXB HXG
            go_wp2
            go_region
            go_wp2
            go_ret
            exact ⟨by rw [HE.out]; rfl, K.out.2.drew⟩
           ·have g1 : (y.toList == x.toList) = false := by rw [toList_data, toList_data]; simpa using he
            have HZ2 := Lib.hid (HXG.out (by unfold strEq; simpa using he))
            clear he
            clear HXB HXG
            go_wp2
            go_region
            go_wp2
            go_roundw
            case rel => exact ⟨m + 1, by go_num, by omega, HZ2, Lib.hid ⟨K.out.1.drew, K.out.2.drew⟩⟩
            case measure => simp [intOf]; omega
          ·have HEn : Hid (∀ (i j : Nat) (x y : ByteArray), j < i → i < k + 1 → g.sorts[j]? = some x → g.sorts[i]? = some y → strEq x y = false) := Lib.hid (fun i j x' y' hj hi hx' hy' => by
            by_cases e : i = k
            ·subst e; rw [HX1.out] at hy'; cases hy'; exact hM.out j x' (by omega) hx'
            ·exact hE.out i j x' y' hj (by omega) hx' hy')
           clear hM hE
           obtain rfl : k = m := by omega
           go_wp2
           go_roundw
           case rel => exact ⟨k + 1, by go_num, by omega, HA, HEn, K⟩
           case measure => simp [intOf]; omega
      ·obtain rfl : n1 = k := by omega
       have S1 := Lib.hid (fun (i : Nat) (x : ByteArray) hx => hS.out i x (by have := (List.getElem?_eq_some_iff.1 hx).1; have := N1.out; omega) hx)
       have S2 := Lib.hid (fun (i j : Nat) (x y : ByteArray) hj hx hy => hE.out i j x y hj (by have := (List.getElem?_eq_some_iff.1 hy).1; have := N1.out; omega) hx hy)
       clear hS hE hk hlt
       go_wp2
       obtain ⟨wo1, rfl⟩ : ∃ wo : World, wo = wr := ⟨_, rfl⟩
       go_loopw [5] (fun vi wr => ∃ k : Nat, vi = .int .i64 k ∧ k ≤ n2 ∧ Hid (∀ (i : Nat) (x : ProdM), i < k → g.prods[i]? = some x → prodB g.sorts.length x = true) ∧ Hid (Blk wr w.heap.size 27 #[.slice g.sa n1 g.sc, .slice g.pa n2 g.pc, .int .i64 g.start, .slice g.fa n3 g.fc, .slice g.wa n4 g.wc] ∧ Below w.heap.size w wr)) (fun vi _ => n2 - (intOf vi).toNat)
       case atStart => exact ⟨0, rfl, Nat.zero_le _, Lib.hid (fun j s hj => by omega), K⟩
       case round =>
        clear K c0 c1 c2 c3 c4 l0
        obtain ⟨k, rfl, hk, hS, K⟩ := hrel
        obtain ⟨c0, c1, c2, c3, c4⟩ := cells5' K.out.1
        have l0 := K.out.1.lt
        by_cases hlt : k < n2
        ·obtain ⟨x, hx⟩ : ∃ x, g.prods[k]? = some x := ⟨_, List.getElem?_eq_getElem (by rw [← N2.out]; exact hlt)⟩
         obtain ⟨b1, o1, e1, hb1, hc1, hi1⟩ := HG.out.prods k x hx
         have hb1' := Nat.lt_of_lt_of_le hb1 K.out.2.size
         have z1 : (k : Int) < (n2 : Int) := by omega
         have z0 : (0 : Int) ≤ (k : Int) := by omega
         obtain ⟨x10, x11, x12, x13, x14, x15, x16⟩ := Prod_at (hc1.below K.out.2 hb1)
         have HXB : Hid (prodB g.sorts.length x = false → q = 160) := Lib.hid (HQ.out.e3 k x hx)
         have HZ : Hid (prodB g.sorts.length x = true → ∀ (i : Nat) (y : ProdM), i < k + 1 → g.prods[i]? = some y → prodB g.sorts.length y = true) := Lib.hid (fun h i y hi hy => by
          by_cases e : i = k
          ·subst e; rw [hx] at hy; cases hy; exact h
          ·exact hS.out i y (by omega) hy)
         have HC := Lib.hid (HPr.out x wr.drew K.out.2.drew (List.mem_of_getElem? hx) (hi1.below K.out.2.drew))
         simp only [← N1.out] at HXB HC
         obtain ⟨r, hr⟩ : ∃ r, r = prodB n1 x := ⟨_, rfl⟩
         rw [← hr] at HXB HC
         have HRR := Lib.hid hr
         rw [e1] at c1 HC
         clear hx hc1 hi1 e1 hS hr
         go_wp2
         refine wp_region_still_tail 6 (by kernel_rfl) (by kernel_rfl) ?_
         show wpStill _ _ wr.drew _ _ _
         obtain ⟨V, hV⟩ : ∃ W, W = wr.drew := ⟨_, rfl⟩
         have kW : ∀ a, V.cell? a = wr.cell? a := fun a => by rw [hV]; rfl
         have hs : V.heap.size = wr.heap.size := by rw [hV]; rfl
         have KV : Hid (Blk V w.heap.size 27 #[.slice g.sa n1 g.sc, .slice g.pa n2 g.pc, .int .i64 g.start, .slice g.fa n3 g.fc, .slice g.wa n4 g.wc] ∧ Below w.heap.size w V) := Lib.hid (by rw [hV]; exact ⟨K.out.1.drew, K.out.2.drew⟩)
         rw [← hV]
         simp only [← kW] at c0 c1 c2 c3 c4 x10 x11 x12 x13 x14 x15 x16
         rw [← hs] at l0 hb1'
         have HV := Lib.hid hV
         have HCW : Hid (Calls Tryz.prog 42 #[.agg #[.slice g.sa n1 g.sc, .slice (some ⟨b1, o1, none⟩) n2 g.pc, .int .i64 g.start, .slice g.fa n3 g.fc, .slice g.wa n4 g.wc], .agg #[.int .i64 x.left, .slice x.ra x.right.length x.rc, .string x.cons, .int .i64 x.role, .bool x.prefer, .bool x.avoid, .int .i64 x.frm]] V fun e w' => e = .returned (.bool r) ∧ Below V.heap.size V w') := Lib.hid (by rw [hV]; exact HC.out)
         clear kW hV hs K
         simp only [List.take_succ_cons, List.take_zero, List.drop_succ_cons, List.drop_zero]
         repeat still_step
         refine wpStill_nil ?_
         show wpList _ _ _ _ _ wr.drew
         rw [← HV.out]
         clear HV
         go_wp2_with fail
         with_reducible refine HCW.out.mono ?_
         rintro e w3 ⟨rfl, hB3⟩
         have K3 : Hid (Blk w3 w.heap.size 27 #[.slice g.sa n1 g.sc, .slice g.pa n2 g.pc, .int .i64 g.start, .slice g.fa n3 g.fc, .slice g.wa n4 g.wc] ∧ Below w.heap.size w w3) := Lib.hid ⟨KV.out.1.below hB3 KV.out.1.lt, KV.out.2.trans (hB3.mono KV.out.2.size)⟩
         clear hB3 KV HCW c0 c1 c2 c3 c4 l0 x10 x11 x12 x13 x14 x15 x16
         cases r with
         | false =>
          have HE := Lib.hid (HXB.out rfl)
          clear HXB HZ
          go_wp2
          go_ret
          exact ⟨by rw [HE.out]; rfl, K3.out.2⟩
         | true =>
          have HZ2 := Lib.hid (HZ.out (by rw [← N1.out]; exact HRR.out.symm))
          clear HXB HZ
          go_wp2
          go_roundw
          case rel => exact ⟨k + 1, by go_num, by omega, HZ2, K3⟩
          case measure => simp [intOf]; omega
        ·obtain rfl : n2 = k := by omega
         have S3 := Lib.hid (fun (i : Nat) (x : ProdM) hx => hS.out i x (by have := (List.getElem?_eq_some_iff.1 hx).1; have := N2.out; omega) hx)
         clear hS hk hlt
         go_wp2
         obtain ⟨wo2, rfl⟩ : ∃ wo : World, wo = wr := ⟨_, rfl⟩
         go_loopw [6] (fun vi wr => ∃ k : Nat, vi = .int .i64 k ∧ k ≤ n3 ∧ Hid (∀ (i : Nat) (x : ForM), i < k → g.forbid[i]? = some x → forbidB g x = true) ∧ Hid (∀ (i j : Nat) (x y : ForM), j < i → i < k → g.forbid[j]? = some x → g.forbid[i]? = some y → forEq x y = false) ∧ Hid (Blk wr w.heap.size 27 #[.slice g.sa n1 g.sc, .slice g.pa n2 g.pc, .int .i64 g.start, .slice g.fa n3 g.fc, .slice g.wa n4 g.wc] ∧ Below w.heap.size w wr)) (fun vi _ => n3 - (intOf vi).toNat)
         case atStart => exact ⟨0, rfl, Nat.zero_le _, Lib.hid (fun j s hj => by omega), Lib.hid (fun i k x y hk hi => by omega), K⟩
         case round =>
          clear K c0 c1 c2 c3 c4 l0
          obtain ⟨k, rfl, hk, hS, hE, K⟩ := hrel
          obtain ⟨c0, c1, c2, c3, c4⟩ := cells5' K.out.1
          have l0 := K.out.1.lt
          by_cases hlt : k < n3
          ·obtain ⟨x, hx⟩ : ∃ x, g.forbid[k]? = some x := ⟨_, List.getElem?_eq_getElem (by rw [← N3.out]; exact hlt)⟩
           obtain ⟨b1, o1, e1, hb1, hc1, hi1⟩ := HG.out.forbid k x hx
           have hb1' := Nat.lt_of_lt_of_le hb1 K.out.2.size
           have z1 : (k : Int) < (n3 : Int) := by omega
           have z0 : (0 : Int) ≤ (k : Int) := by omega
           obtain ⟨x10, x11, x12⟩ := For_at (hc1.below K.out.2 hb1)
           have HXB : Hid (forbidB g x = false → q = 160) := Lib.hid (HQ.out.e4 k x hx)
           have HC := Lib.hid (HFo.out x wr.drew K.out.2.drew (List.mem_of_getElem? hx))
           obtain ⟨r, hr⟩ : ∃ r, r = forbidB g x := ⟨_, rfl⟩
           rw [← hr] at HXB HC
           have HRR := Lib.hid hr
           have c3' := c3
           rw [e1] at c3 HC
           have E1h := Lib.hid e1
           clear hr e1
           go_wp2
           refine wp_region_still_tail 6 (by kernel_rfl) (by kernel_rfl) ?_
           show wpStill _ _ wr.drew _ _ _
           obtain ⟨V, hV⟩ : ∃ W, W = wr.drew := ⟨_, rfl⟩
           have kW : ∀ a, V.cell? a = wr.cell? a := fun a => by rw [hV]; rfl
           have hs : V.heap.size = wr.heap.size := by rw [hV]; rfl
           have KV : Hid (Blk V w.heap.size 27 #[.slice g.sa n1 g.sc, .slice g.pa n2 g.pc, .int .i64 g.start, .slice g.fa n3 g.fc, .slice g.wa n4 g.wc] ∧ Below w.heap.size w V) := Lib.hid (by rw [hV]; exact ⟨K.out.1.drew, K.out.2.drew⟩)
           rw [← hV]
           simp only [← kW] at c0 c1 c2 c3 c4 x10 x11 x12
           rw [← hs] at l0 hb1'
           have HV := Lib.hid hV
           have HCW : Hid (Calls Tryz.prog 43 #[.agg #[.slice g.sa n1 g.sc, .slice g.pa n2 g.pc, .int .i64 g.start, .slice (some ⟨b1, o1, none⟩) n3 g.fc, .slice g.wa n4 g.wc], .agg #[.int .i64 x.parent, .int .i64 x.at_, .int .i64 x.child]] V fun e w' => e = .returned (.bool r) ∧ Below V.heap.size V w') := Lib.hid (by rw [hV]; exact HC.out)
           clear c3'
           clear kW hV hs K
           simp only [List.take_succ_cons, List.take_zero, List.drop_succ_cons, List.drop_zero]
           repeat still_step
           refine wpStill_nil ?_
           show wpList _ _ _ _ _ wr.drew
           rw [← HV.out]
           clear HV
           go_wp2_with fail
           with_reducible refine HCW.out.mono ?_
           rintro e w3 ⟨rfl, hB3⟩
           have K3 : Hid (Blk w3 w.heap.size 27 #[.slice g.sa n1 g.sc, .slice g.pa n2 g.pc, .int .i64 g.start, .slice g.fa n3 g.fc, .slice g.wa n4 g.wc] ∧ Below w.heap.size w w3) := Lib.hid ⟨KV.out.1.below hB3 KV.out.1.lt, KV.out.2.trans (hB3.mono KV.out.2.size)⟩
           clear hB3 KV HCW c0 c1 c2 c3 c4 l0 x10 x11 x12
           cases r with
           | false =>
            have HE := Lib.hid (HXB.out rfl)
            clear HXB hx hc1 hi1 hS hE
            go_wp2
            go_ret
            exact ⟨by rw [HE.out]; rfl, K3.out.2⟩
           | true =>
            have HX : Hid (forbidB g x = true) := Lib.hid HRR.out.symm
            have HA : Hid (∀ (i : Nat) (y : ForM), i < k + 1 → g.forbid[i]? = some y → forbidB g y = true) := Lib.hid (fun i y hi hy => by
             by_cases e : i = k
             ·subst e; rw [hx] at hy; cases hy; exact HX.out
             ·exact hS.out i y (by omega) hy)
            clear hS HXB HX HRR HC
            obtain ⟨c0, c1, c2, c3, c4⟩ := cells5' K3.out.1
            have l0 := K3.out.1.lt
            obtain ⟨wz, rfl⟩ : ∃ z : World, z = wr := ⟨_, rfl⟩
            obtain ⟨wr, rfl⟩ : ∃ z : World, z = w3 := ⟨_, rfl⟩
            have e1 := E1h.out
            have HX1 := Lib.hid hx
            have E1 := Lib.hid e1
            have HC1 := Lib.hid hc1
            clear hx e1 hc1 hi1
            go_wp2
            obtain ⟨wo, rfl⟩ : ∃ wo : World, wo = wr := ⟨_, rfl⟩
            go_loopw [7] (fun vi wr => ∃ m : Nat, vi = .int .i64 m ∧ m ≤ k ∧ Hid (∀ (j : Nat) (y : ForM), j < m → g.forbid[j]? = some y → forEq y x = false) ∧ Hid (Blk wr w.heap.size 27 #[.slice g.sa n1 g.sc, .slice g.pa n2 g.pc, .int .i64 g.start, .slice g.fa n3 g.fc, .slice g.wa n4 g.wc] ∧ Below w.heap.size w wr)) (fun vi _ => k - (intOf vi).toNat)
            case atStart => exact ⟨0, rfl, Nat.zero_le _, Lib.hid (fun j s hj => by omega), K3⟩
            case round =>
             clear K3 c0 c1 c2 c3 c4 l0
             obtain ⟨m, rfl, hm, hM, K⟩ := hrel
             obtain ⟨c0, c1, c2, c3, c4⟩ := cells5' K.out.1
             have l0 := K.out.1.lt
             by_cases hml : m < k
             ·obtain ⟨y, hy⟩ : ∃ y, g.forbid[m]? = some y := ⟨_, List.getElem?_eq_getElem (by have := (List.getElem?_eq_some_iff.1 HX1.out).1; omega)⟩
              obtain ⟨b2, o2, e2, hb2, hc2, _⟩ := HG.out.forbid m y hy
              obtain rfl : b1 = b2 := by rw [E1.out] at e2; simpa using congrArg (fun a => a.map (·.block)) e2
              obtain rfl : o1 = o2 := by rw [E1.out] at e2; simpa using congrArg (fun a => a.map (·.off)) e2
              have zz1 : (m : Int) < (k : Int) := by omega
              have zz2 : (m : Int) < (n3 : Int) := by omega
              have zz0 : (0 : Int) ≤ (m : Int) := by omega
              have hb2' := Nat.lt_of_lt_of_le hb1 K.out.2.size
              obtain ⟨x10, x11, x12⟩ := For_at (HC1.out.below K.out.2 hb1)
              obtain ⟨x20, x21, x22⟩ := For_at (hc2.below K.out.2 hb1)
              have HXB : Hid (forEq y x = true → q = 160) := Lib.hid (HQ.out.e5 k m y x hml hy HX1.out)
              have HXG : Hid (forEq y x = false → ∀ (j : Nat) (y : ForM), j < m + 1 → g.forbid[j]? = some y → forEq y x = false) := Lib.hid (fun h j y' hj hy' => by
               by_cases e : j = m
               ·subst e; rw [hy] at hy'; cases hy'; exact h
               ·exact hM.out j y' (by omega) hy')
              rw [E1.out] at c3
              clear hy hc2 hM e2
              cases he : forEq y x with
              | true =>
               have hee : (y.parent == x.parent && (y.at_ == x.at_ && y.child == x.child)) = true := he
               have g1 := fun w' => eq_fors 9996 y x w'
               simp only [hee] at g1
               clear hee
               unfold forV forC at g1
               have HE := Lib.hid (HXB.out he)
               clear he
               clear HXB HXG
               go_wp2
               go_region
               go_wp2
               go_ret
               exact ⟨by rw [HE.out]; rfl, K.out.2.drew⟩
              | false =>
               have hee : (y.parent == x.parent && (y.at_ == x.at_ && y.child == x.child)) = false := he
               have g1 := fun w' => eq_fors 9996 y x w'
               simp only [hee] at g1
               clear hee
               unfold forV forC at g1
               have HZ2 := Lib.hid (HXG.out he)
               clear he
               clear HXB HXG
               go_wp2
               go_region
               go_wp2
               go_roundw
               case rel => exact ⟨m + 1, by go_num, by omega, HZ2, Lib.hid ⟨K.out.1.drew, K.out.2.drew⟩⟩
               case measure => simp [intOf]; omega
             ·have HEn : Hid (∀ (i j : Nat) (x y : ForM), j < i → i < k + 1 → g.forbid[j]? = some x → g.forbid[i]? = some y → forEq x y = false) := Lib.hid (fun i j x' y' hj hi hx' hy' => by
               by_cases e : i = k
               ·subst e; rw [HX1.out] at hy'; cases hy'; exact hM.out j x' (by omega) hx'
               ·exact hE.out i j x' y' hj (by omega) hx' hy')
              clear hM hE
              obtain rfl : k = m := by omega
              go_wp2
              go_roundw
              case rel => exact ⟨k + 1, by go_num, by omega, HA, HEn, K⟩
              case measure => simp [intOf]; omega
          ·obtain rfl : n3 = k := by omega
           have S4 := Lib.hid (fun (i : Nat) (x : ForM) hx => hS.out i x (by have := (List.getElem?_eq_some_iff.1 hx).1; have := N3.out; omega) hx)
           have S5 := Lib.hid (fun (i j : Nat) (x y : ForM) hj hx hy => hE.out i j x y hj (by have := (List.getElem?_eq_some_iff.1 hy).1; have := N3.out; omega) hx hy)
           clear hS hE hk hlt
           go_wp2
           obtain ⟨wo3, rfl⟩ : ∃ wo : World, wo = wr := ⟨_, rfl⟩
           go_loopw [8] (fun vi wr => ∃ k : Nat, vi = .int .i64 k ∧ k ≤ n4 ∧ Hid (∀ (i : Nat) (x : FolM), i < k → g.follow[i]? = some x → folB g.sorts.length x = true) ∧ Hid (∀ (i j : Nat) (x y : FolM), j < i → i < k → g.follow[j]? = some x → g.follow[i]? = some y → (x.sort == y.sort) = false) ∧ Hid (Blk wr w.heap.size 27 #[.slice g.sa n1 g.sc, .slice g.pa n2 g.pc, .int .i64 g.start, .slice g.fa n3 g.fc, .slice g.wa n4 g.wc] ∧ Below w.heap.size w wr)) (fun vi _ => n4 - (intOf vi).toNat)
           case atStart => exact ⟨0, rfl, Nat.zero_le _, Lib.hid (fun j s hj => by omega), Lib.hid (fun i k x y hk hi => by omega), K⟩
           case round =>
            clear K c0 c1 c2 c3 c4 l0
            obtain ⟨k, rfl, hk, hS, hE, K⟩ := hrel
            obtain ⟨c0, c1, c2, c3, c4⟩ := cells5' K.out.1
            have l0 := K.out.1.lt
            by_cases hlt : k < n4
            ·obtain ⟨x, hx⟩ : ∃ x, g.follow[k]? = some x := ⟨_, List.getElem?_eq_getElem (by rw [← N4.out]; exact hlt)⟩
             obtain ⟨b1, o1, e1, hb1, hc1, hi1⟩ := HG.out.follow k x hx
             have hb1' := Nat.lt_of_lt_of_le hb1 K.out.2.size
             have z1 : (k : Int) < (n4 : Int) := by omega
             have z0 : (0 : Int) ≤ (k : Int) := by omega
             obtain ⟨x10, x11, x12, x13, x14⟩ := Fol_at (hc1.below K.out.2 hb1)
             have HXB : Hid (folB g.sorts.length x = false → q = 160) := Lib.hid (HQ.out.e6 k x hx)
             have E1h := Lib.hid e1
             have HK : Hid (∀ W, Below wr.heap.size wr W → (W.cell? ⟨w.heap.size, 0, none⟩ = some (.slice g.sa n1 g.sc) ∧ W.cell? ⟨w.heap.size, 1, none⟩ = some (.slice g.pa n2 g.pc) ∧ W.cell? ⟨w.heap.size, 2, none⟩ = some (.int .i64 g.start) ∧ W.cell? ⟨w.heap.size, 3, none⟩ = some (.slice g.fa n3 g.fc) ∧ W.cell? ⟨w.heap.size, 4, none⟩ = some (.slice g.wa n4 g.wc)) ∧ W.cell? ⟨w.heap.size, 4, none⟩ = some (.slice (some ⟨b1, o1, none⟩) n4 g.wc) ∧ W.cell? ⟨b1, o1 + k * 5, none⟩ = some (.int .i64 x.sort) ∧ (W.cell? ⟨b1, o1 + k * 5 + 1, none⟩ = some (.int .u64 (wdI x.not 0)) ∧ W.cell? ⟨b1, o1 + k * 5 + 1 + 1, none⟩ = some (.int .u64 (wdI x.not 1)) ∧ W.cell? ⟨b1, o1 + k * 5 + 1 + 2, none⟩ = some (.int .u64 (wdI x.not 2)) ∧ W.cell? ⟨b1, o1 + k * 5 + 1 + 3, none⟩ = some (.int .u64 (wdI x.not 3)))) := Lib.hid (fun W hW => by
              have k1 := K.out.1.below hW K.out.1.lt
              have k2 := Fol_at ((hc1.below K.out.2 hb1).below hW hb1')
              exact ⟨cells5' k1, by rw [← E1h.out]; exact (cells5' k1).2.2.2.2, k2⟩)
             obtain ⟨r, hr⟩ : ∃ r, r = numB x.sort n1 := ⟨_, rfl⟩
             obtain ⟨z, hz⟩ : ∃ z, z = (x.not == 0#256) := ⟨_, rfl⟩
             have HRR : Hid (numB x.sort g.sorts.length = r) := Lib.hid (by rw [hr, N1.out])
             have HZZ : Hid ((x.not == 0#256) = z) := Lib.hid hz.symm
             have HC1 : ∀ W, Hid (Calls Tryz.prog 41 #[.agg #[.slice g.sa n1 g.sc, .slice g.pa n2 g.pc, .int .i64 g.start, .slice g.fa n3 g.fc, .slice g.wa n4 g.wc], .int .i64 x.sort] W fun e w' => e = .returned (.bool r) ∧ Below W.heap.size W w') := fun W => Lib.hid (by rw [hr]; exact (HSo x.sort W).out)
             have HC2 : ∀ W, Hid (Calls Tryz.prog 44 #[.agg #[.int .u64 (wdI x.not 0), .int .u64 (wdI x.not 1), .int .u64 (wdI x.not 2), .int .u64 (wdI x.not 3)]] W fun e w' => e = .returned (.bool z) ∧ Below W.heap.size W w') := fun W => Lib.hid (by rw [hz]; exact empty_any x.not W)
             have hkn : k < n4 := hlt
             have hN : ∀ W : World, Below W.heap.size W W := fun W => Below.refl _ W
             clear e1 hr hz
             go_wp2
             cases r with
             | false =>
              refine wp_region_vals0 (N := fun W W' => Below W.heap.size W W') (S := fun W => Below wr.heap.size wr W)
               [.agg #[.slice g.sa n1 g.sc, .slice g.pa n2 g.pc, .int .i64 g.start, .slice g.fa n3 g.fc, .slice g.wa n4 g.wc], .pointer (some ⟨w.heap.size, 4, none⟩), .slice (some ⟨b1, o1, none⟩) n4 g.wc, .int .i64 (k : Nat), .pointer (some ⟨b1, o1 + k * 5, none⟩), .pointer (some ⟨b1, o1 + k * 5, none⟩), .int .i64 x.sort, .bool false, .bool true, .bool true, undef, undef, undef, undef, undef, undef, undef, .bool true]
               #[.agg #[.slice g.sa n1 g.sc, .slice g.pa n2 g.pc, .int .i64 g.start, .slice g.fa n3 g.fc, .slice g.wa n4 g.wc], .pointer (some ⟨w.heap.size, 0, none⟩), u2, .int .i64 (n1 : Nat), u4, .int .i64 (n2 : Nat), .int .i64 (n3 : Nat), u7, .int .i64 (k : Nat), u9, .pointer (some ⟨w.heap.size, 0, none⟩), .slice g.sa n1 g.sc, .int .i64 (n1 : Nat), .bool false, .bool false, .pointer (some ⟨w.heap.size, 0, none⟩), .slice g.sa n1 g.sc, .int .i64 (n1 : Nat), .bool false, .bool false, .bool false, .pointer (some ⟨w.heap.size, 1, none⟩), .slice g.pa n2 g.pc, .int .i64 (n2 : Nat), .bool false, .bool false, .bool false, .agg #[.slice g.sa n1 g.sc, .slice g.pa n2 g.pc, .int .i64 g.start, .slice g.fa n3 g.fc, .slice g.wa n4 g.wc], .pointer (some ⟨w.heap.size, 2, none⟩), .int .i64 g.start, .bool true, .bool false, .bool false, .int .i64 (n1 : Nat), .pointer (some ⟨w.heap.size, 0, none⟩), .slice g.sa n1 g.sc, .int .i64 (n1 : Nat), .bool false, u38, u39, u40, u41, u42, u43, u44, u45, u46, u47, u48, u49, u50, u51, u52, u53, u54, u55, u56, u57, u58, u59, u60, u61, u62, u63, u64, u65, u66, u67, u68, u69, u70, .int .i64 (n2 : Nat), .pointer (some ⟨w.heap.size, 1, none⟩), .slice g.pa n2 g.pc, .int .i64 (n2 : Nat), .bool false, u76, u77, u78, u79, u80, u81, u82, u83, u84, u85, .int .i64 (n3 : Nat), .pointer (some ⟨w.heap.size, 3, none⟩), .slice g.fa n3 g.fc, .int .i64 (n3 : Nat), .bool false, u91, u92, u93, u94, u95, u96, u97, u98, u99, u100, u101, u102, u103, u104, u105, u106, u107, u108, u109, u110, u111, u112, u113, u114, u115, u116, .int .i64 (k : Nat), .pointer (some ⟨w.heap.size, 4, none⟩), .slice g.wa n4 g.wc, .int .i64 (n4 : Nat), .bool true, u122, u123, .agg #[.slice g.sa n1 g.sc, .slice g.pa n2 g.pc, .int .i64 g.start, .slice g.fa n3 g.fc, .slice g.wa n4 g.wc], .pointer (some ⟨w.heap.size, 4, none⟩), .slice (some ⟨b1, o1, none⟩) n4 g.wc, .int .i64 (k : Nat), .pointer (some ⟨b1, o1 + k * 5, none⟩), .pointer (some ⟨b1, o1 + k * 5, none⟩), .int .i64 x.sort, .bool false, .bool true, .bool true, undef, undef, undef, undef, undef, undef, undef, .bool true, u142, u143, u144, u145, u146, u147, u148, u149, u150, u151, u152, u153, u154, u155, u156, u157, u158, u159]
               rfl (by kernel_rfl) (by kernel_rfl) (by kernel_rfl) hN (Below.refl _ wr).drew (fun W W' h hB => h.trans (hB.mono h.size)) ?_ ?_
              ·refine Each.val 124 (.agg #[.slice g.sa n1 g.sc, .slice g.pa n2 g.pc, .int .i64 g.start, .slice g.fa n3 g.fc, .slice g.wa n4 g.wc]) (by kernel_rfl) (by kernel_rfl) (by kernel_rfl) hN (fun W hS _ => ld27r rfl (by kernel_rfl) (HK.out W hS).1) ?_
               refine Each.val 125 (.pointer (some ⟨w.heap.size, 4, none⟩)) (by kernel_rfl) (by kernel_rfl) (by kernel_rfl) hN (fun W hS _ => fa27_4 rfl (by kernel_rfl)) ?_
               refine Each.val 126 (.slice (some ⟨b1, o1, none⟩) n4 g.wc) (by kernel_rfl) (by kernel_rfl) (by kernel_rfl) hN (fun W hS _ => ld25 rfl (by kernel_rfl) (((HK.out W hS).2.1))) ?_
               refine Each.val 127 (.int .i64 (k : Nat)) (by kernel_rfl) (by kernel_rfl) (by kernel_rfl) hN (fun _ _ _ => by kernel_rfl) ?_
               refine Each.val 128 (.pointer (some ⟨b1, o1 + k * 5, none⟩)) (by kernel_rfl) (by kernel_rfl) (by kernel_rfl) hN (fun W hS _ => ix25 (c := g.wc) rfl (by kernel_rfl) (by kernel_rfl) hkn rfl) ?_
               refine Each.val 129 (.pointer (some ⟨b1, o1 + k * 5, none⟩)) (by kernel_rfl) (by kernel_rfl) (by kernel_rfl) hN (fun W hS _ => fa87_0 rfl (by kernel_rfl)) ?_
               refine Each.val 130 (.int .i64 x.sort) (by kernel_rfl) (by kernel_rfl) (by kernel_rfl) hN (fun W hS _ => ld3 rfl (by kernel_rfl) (((HK.out W hS).2.2.1))) ?_
               refine Each.call 131 (.bool false) 41 #[.agg #[.slice g.sa n1 g.sc, .slice g.pa n2 g.pc, .int .i64 g.start, .slice g.fa n3 g.fc, .slice g.wa n4 g.wc], .int .i64 x.sort] (by kernel_rfl) (by kernel_rfl) (by kernel_rfl) (fun _ _ => by kernel_rfl) (fun W hS => (HC1 W).out) ?_
               refine Each.val 132 (.bool true) (by kernel_rfl) (by kernel_rfl) (by kernel_rfl) hN (fun _ _ _ => by kernel_rfl) ?_
               refine Each.val 133 (.bool true) (by kernel_rfl) (by kernel_rfl) (by kernel_rfl) hN (fun _ _ _ => by kernel_rfl) ?_
               refine Each.off 134 (by kernel_rfl) (by kernel_rfl) (by kernel_rfl) ?_
               refine Each.off 135 (by kernel_rfl) (by kernel_rfl) (by kernel_rfl) ?_
               refine Each.off 136 (by kernel_rfl) (by kernel_rfl) (by kernel_rfl) ?_
               refine Each.off 137 (by kernel_rfl) (by kernel_rfl) (by kernel_rfl) ?_
               refine Each.off 138 (by kernel_rfl) (by kernel_rfl) (by kernel_rfl) ?_
               refine Each.off 139 (by kernel_rfl) (by kernel_rfl) (by kernel_rfl) ?_
               refine Each.off 140 (by kernel_rfl) (by kernel_rfl) (by kernel_rfl) ?_
               refine Each.val 141 (.bool true) (by kernel_rfl) (by kernel_rfl) (by kernel_rfl) hN (fun _ _ _ => by kernel_rfl) ?_
               exact trivial
              ·intro w' hS2
               have K3 : Hid (Blk w' w.heap.size 27 #[.slice g.sa n1 g.sc, .slice g.pa n2 g.pc, .int .i64 g.start, .slice g.fa n3 g.fc, .slice g.wa n4 g.wc] ∧ Below w.heap.size w w') := Lib.hid ⟨K.out.1.below hS2 K.out.1.lt, K.out.2.trans (hS2.mono K.out.2.size)⟩
               clear hS2 hN HC1 HC2 HK c0 c1 c2 c3 c4 l0 x10 x11 x12 x13 x14 K
               have HE := Lib.hid (HXB.out (by unfold folB; rw [HRR.out]; rfl))
               clear hS hE HXB hx hc1 hi1
               go_wp2
               go_ret
               exact ⟨by rw [HE.out]; rfl, K3.out.2⟩
             | true =>
              refine wp_region_vals0 (N := fun W W' => Below W.heap.size W W') (S := fun W => Below wr.heap.size wr W)
               [.agg #[.slice g.sa n1 g.sc, .slice g.pa n2 g.pc, .int .i64 g.start, .slice g.fa n3 g.fc, .slice g.wa n4 g.wc], .pointer (some ⟨w.heap.size, 4, none⟩), .slice (some ⟨b1, o1, none⟩) n4 g.wc, .int .i64 (k : Nat), .pointer (some ⟨b1, o1 + k * 5, none⟩), .pointer (some ⟨b1, o1 + k * 5, none⟩), .int .i64 x.sort, .bool true, .bool false, .bool false, .pointer (some ⟨w.heap.size, 4, none⟩), .slice (some ⟨b1, o1, none⟩) n4 g.wc, .int .i64 (k : Nat), .pointer (some ⟨b1, o1 + k * 5, none⟩), .pointer (some ⟨b1, o1 + k * 5 + 1, none⟩), .agg #[.int .u64 (wdI x.not 0), .int .u64 (wdI x.not 1), .int .u64 (wdI x.not 2), .int .u64 (wdI x.not 3)], .bool z, .bool z]
               #[.agg #[.slice g.sa n1 g.sc, .slice g.pa n2 g.pc, .int .i64 g.start, .slice g.fa n3 g.fc, .slice g.wa n4 g.wc], .pointer (some ⟨w.heap.size, 0, none⟩), u2, .int .i64 (n1 : Nat), u4, .int .i64 (n2 : Nat), .int .i64 (n3 : Nat), u7, .int .i64 (k : Nat), u9, .pointer (some ⟨w.heap.size, 0, none⟩), .slice g.sa n1 g.sc, .int .i64 (n1 : Nat), .bool false, .bool false, .pointer (some ⟨w.heap.size, 0, none⟩), .slice g.sa n1 g.sc, .int .i64 (n1 : Nat), .bool false, .bool false, .bool false, .pointer (some ⟨w.heap.size, 1, none⟩), .slice g.pa n2 g.pc, .int .i64 (n2 : Nat), .bool false, .bool false, .bool false, .agg #[.slice g.sa n1 g.sc, .slice g.pa n2 g.pc, .int .i64 g.start, .slice g.fa n3 g.fc, .slice g.wa n4 g.wc], .pointer (some ⟨w.heap.size, 2, none⟩), .int .i64 g.start, .bool true, .bool false, .bool false, .int .i64 (n1 : Nat), .pointer (some ⟨w.heap.size, 0, none⟩), .slice g.sa n1 g.sc, .int .i64 (n1 : Nat), .bool false, u38, u39, u40, u41, u42, u43, u44, u45, u46, u47, u48, u49, u50, u51, u52, u53, u54, u55, u56, u57, u58, u59, u60, u61, u62, u63, u64, u65, u66, u67, u68, u69, u70, .int .i64 (n2 : Nat), .pointer (some ⟨w.heap.size, 1, none⟩), .slice g.pa n2 g.pc, .int .i64 (n2 : Nat), .bool false, u76, u77, u78, u79, u80, u81, u82, u83, u84, u85, .int .i64 (n3 : Nat), .pointer (some ⟨w.heap.size, 3, none⟩), .slice g.fa n3 g.fc, .int .i64 (n3 : Nat), .bool false, u91, u92, u93, u94, u95, u96, u97, u98, u99, u100, u101, u102, u103, u104, u105, u106, u107, u108, u109, u110, u111, u112, u113, u114, u115, u116, .int .i64 (k : Nat), .pointer (some ⟨w.heap.size, 4, none⟩), .slice g.wa n4 g.wc, .int .i64 (n4 : Nat), .bool true, u122, u123, .agg #[.slice g.sa n1 g.sc, .slice g.pa n2 g.pc, .int .i64 g.start, .slice g.fa n3 g.fc, .slice g.wa n4 g.wc], .pointer (some ⟨w.heap.size, 4, none⟩), .slice (some ⟨b1, o1, none⟩) n4 g.wc, .int .i64 (k : Nat), .pointer (some ⟨b1, o1 + k * 5, none⟩), .pointer (some ⟨b1, o1 + k * 5, none⟩), .int .i64 x.sort, .bool true, .bool false, .bool false, .pointer (some ⟨w.heap.size, 4, none⟩), .slice (some ⟨b1, o1, none⟩) n4 g.wc, .int .i64 (k : Nat), .pointer (some ⟨b1, o1 + k * 5, none⟩), .pointer (some ⟨b1, o1 + k * 5 + 1, none⟩), .agg #[.int .u64 (wdI x.not 0), .int .u64 (wdI x.not 1), .int .u64 (wdI x.not 2), .int .u64 (wdI x.not 3)], .bool z, .bool z, u142, u143, u144, u145, u146, u147, u148, u149, u150, u151, u152, u153, u154, u155, u156, u157, u158, u159]
               rfl (by kernel_rfl) (by kernel_rfl) (by kernel_rfl) hN (Below.refl _ wr).drew (fun W W' h hB => h.trans (hB.mono h.size)) ?_ ?_
              ·refine Each.val 124 (.agg #[.slice g.sa n1 g.sc, .slice g.pa n2 g.pc, .int .i64 g.start, .slice g.fa n3 g.fc, .slice g.wa n4 g.wc]) (by kernel_rfl) (by kernel_rfl) (by kernel_rfl) hN (fun W hS _ => ld27r rfl (by kernel_rfl) (HK.out W hS).1) ?_
               refine Each.val 125 (.pointer (some ⟨w.heap.size, 4, none⟩)) (by kernel_rfl) (by kernel_rfl) (by kernel_rfl) hN (fun W hS _ => fa27_4 rfl (by kernel_rfl)) ?_
               refine Each.val 126 (.slice (some ⟨b1, o1, none⟩) n4 g.wc) (by kernel_rfl) (by kernel_rfl) (by kernel_rfl) hN (fun W hS _ => ld25 rfl (by kernel_rfl) (((HK.out W hS).2.1))) ?_
               refine Each.val 127 (.int .i64 (k : Nat)) (by kernel_rfl) (by kernel_rfl) (by kernel_rfl) hN (fun _ _ _ => by kernel_rfl) ?_
               refine Each.val 128 (.pointer (some ⟨b1, o1 + k * 5, none⟩)) (by kernel_rfl) (by kernel_rfl) (by kernel_rfl) hN (fun W hS _ => ix25 (c := g.wc) rfl (by kernel_rfl) (by kernel_rfl) hkn rfl) ?_
               refine Each.val 129 (.pointer (some ⟨b1, o1 + k * 5, none⟩)) (by kernel_rfl) (by kernel_rfl) (by kernel_rfl) hN (fun W hS _ => fa87_0 rfl (by kernel_rfl)) ?_
               refine Each.val 130 (.int .i64 x.sort) (by kernel_rfl) (by kernel_rfl) (by kernel_rfl) hN (fun W hS _ => ld3 rfl (by kernel_rfl) (((HK.out W hS).2.2.1))) ?_
               refine Each.call 131 (.bool true) 41 #[.agg #[.slice g.sa n1 g.sc, .slice g.pa n2 g.pc, .int .i64 g.start, .slice g.fa n3 g.fc, .slice g.wa n4 g.wc], .int .i64 x.sort] (by kernel_rfl) (by kernel_rfl) (by kernel_rfl) (fun _ _ => by kernel_rfl) (fun W hS => (HC1 W).out) ?_
               refine Each.val 132 (.bool false) (by kernel_rfl) (by kernel_rfl) (by kernel_rfl) hN (fun _ _ _ => by kernel_rfl) ?_
               refine Each.val 133 (.bool false) (by kernel_rfl) (by kernel_rfl) (by kernel_rfl) hN (fun _ _ _ => by kernel_rfl) ?_
               refine Each.val 134 (.pointer (some ⟨w.heap.size, 4, none⟩)) (by kernel_rfl) (by kernel_rfl) (by kernel_rfl) hN (fun W hS _ => fa27_4 rfl (by kernel_rfl)) ?_
               refine Each.val 135 (.slice (some ⟨b1, o1, none⟩) n4 g.wc) (by kernel_rfl) (by kernel_rfl) (by kernel_rfl) hN (fun W hS _ => ld25 rfl (by kernel_rfl) (((HK.out W hS).2.1))) ?_
               refine Each.val 136 (.int .i64 (k : Nat)) (by kernel_rfl) (by kernel_rfl) (by kernel_rfl) hN (fun _ _ _ => by kernel_rfl) ?_
               refine Each.val 137 (.pointer (some ⟨b1, o1 + k * 5, none⟩)) (by kernel_rfl) (by kernel_rfl) (by kernel_rfl) hN (fun W hS _ => ix25 (c := g.wc) rfl (by kernel_rfl) (by kernel_rfl) hkn rfl) ?_
               refine Each.val 138 (.pointer (some ⟨b1, o1 + k * 5 + 1, none⟩)) (by kernel_rfl) (by kernel_rfl) (by kernel_rfl) hN (fun W hS _ => fa87_1 rfl (by kernel_rfl)) ?_
               refine Each.val 139 (.agg #[.int .u64 (wdI x.not 0), .int .u64 (wdI x.not 1), .int .u64 (wdI x.not 2), .int .u64 (wdI x.not 3)]) (by kernel_rfl) (by kernel_rfl) (by kernel_rfl) hN (fun W hS _ => ld47 rfl (by kernel_rfl) ((HK.out W hS).2.2.2)) ?_
               refine Each.call 140 (.bool z) 44 #[.agg #[.int .u64 (wdI x.not 0), .int .u64 (wdI x.not 1), .int .u64 (wdI x.not 2), .int .u64 (wdI x.not 3)]] (by kernel_rfl) (by kernel_rfl) (by kernel_rfl) (fun _ _ => by kernel_rfl) (fun W hS => (HC2 W).out) ?_
               refine Each.val 141 (.bool z) (by kernel_rfl) (by kernel_rfl) (by kernel_rfl) hN (fun _ _ _ => by kernel_rfl) ?_
               exact trivial
              ·intro w' hS2
               have K3 : Hid (Blk w' w.heap.size 27 #[.slice g.sa n1 g.sc, .slice g.pa n2 g.pc, .int .i64 g.start, .slice g.fa n3 g.fc, .slice g.wa n4 g.wc] ∧ Below w.heap.size w w') := Lib.hid ⟨K.out.1.below hS2 K.out.1.lt, K.out.2.trans (hS2.mono K.out.2.size)⟩
               clear hS2 hN HC1 HC2 HK c0 c1 c2 c3 c4 l0 x10 x11 x12 x13 x14 K
               cases z with
               | true =>
                have HE := Lib.hid (HXB.out (by unfold folB; rw [HRR.out, HZZ.out]; rfl))
                clear hS hE HXB hx hc1 hi1
                go_wp2
                go_ret
                exact ⟨by rw [HE.out]; rfl, K3.out.2⟩
               | false =>
                have HX : Hid (folB g.sorts.length x = true) := Lib.hid (by unfold folB; rw [HRR.out, HZZ.out]; rfl)
                have HA : Hid (∀ (i : Nat) (y : FolM), i < k + 1 → g.follow[i]? = some y → folB g.sorts.length y = true) := Lib.hid (fun i y hi hy => by
                 by_cases e : i = k
                 ·subst e; rw [hx] at hy; cases hy; exact HX.out
                 ·exact hS.out i y (by omega) hy)
                clear hS HXB HX HRR HZZ
                obtain ⟨c0, c1, c2, c3, c4⟩ := cells5' K3.out.1
                have l0 := K3.out.1.lt
                obtain ⟨wz, rfl⟩ : ∃ z : World, z = wr := ⟨_, rfl⟩
                obtain ⟨wr, rfl⟩ : ∃ z : World, z = w' := ⟨_, rfl⟩
                have e1 := E1h.out
                have HX1 := Lib.hid hx
                have E1 := Lib.hid e1
                have HC1 := Lib.hid hc1
                clear hx e1 hc1 hi1
                go_wp2
                obtain ⟨wo, rfl⟩ : ∃ wo : World, wo = wr := ⟨_, rfl⟩
                go_loopw [9] (fun vi wr => ∃ m : Nat, vi = .int .i64 m ∧ m ≤ k ∧ Hid (∀ (j : Nat) (y : FolM), j < m → g.follow[j]? = some y → (y.sort == x.sort) = false) ∧ Hid (Blk wr w.heap.size 27 #[.slice g.sa n1 g.sc, .slice g.pa n2 g.pc, .int .i64 g.start, .slice g.fa n3 g.fc, .slice g.wa n4 g.wc] ∧ Below w.heap.size w wr)) (fun vi _ => k - (intOf vi).toNat)
                case atStart => exact ⟨0, rfl, Nat.zero_le _, Lib.hid (fun j s hj => by omega), K3⟩
                case round =>
                 clear K3 c0 c1 c2 c3 c4 l0
                 obtain ⟨m, rfl, hm, hM, K⟩ := hrel
                 obtain ⟨c0, c1, c2, c3, c4⟩ := cells5' K.out.1
                 have l0 := K.out.1.lt
                 by_cases hml : m < k
                 ·obtain ⟨y, hy⟩ : ∃ y, g.follow[m]? = some y := ⟨_, List.getElem?_eq_getElem (by have := (List.getElem?_eq_some_iff.1 HX1.out).1; omega)⟩
                  obtain ⟨b2, o2, e2, hb2, hc2, _⟩ := HG.out.follow m y hy
                  obtain rfl : b1 = b2 := by rw [E1.out] at e2; simpa using congrArg (fun a => a.map (·.block)) e2
                  obtain rfl : o1 = o2 := by rw [E1.out] at e2; simpa using congrArg (fun a => a.map (·.off)) e2
                  have zz1 : (m : Int) < (k : Int) := by omega
                  have zz2 : (m : Int) < (n4 : Int) := by omega
                  have zz0 : (0 : Int) ≤ (m : Int) := by omega
                  have hb2' := Nat.lt_of_lt_of_le hb1 K.out.2.size
                  obtain ⟨x10, x11, x12, x13, x14⟩ := Fol_at (HC1.out.below K.out.2 hb1)
                  obtain ⟨x20, x21, x22, x23, x24⟩ := Fol_at (hc2.below K.out.2 hb1)
                  have HXB : Hid ((y.sort == x.sort) = true → q = 160) := Lib.hid (HQ.out.e7 k m y x hml hy HX1.out)
                  have HXG : Hid ((y.sort == x.sort) = false → ∀ (j : Nat) (y : FolM), j < m + 1 → g.follow[j]? = some y → (y.sort == x.sort) = false) := Lib.hid (fun h j y' hj hy' => by
                   by_cases e : j = m
                   ·subst e; rw [hy] at hy'; cases hy'; exact h
                   ·exact hM.out j y' (by omega) hy')
                  rw [E1.out] at c4
                  clear hy hc2 hM e2
                  cases he : (y.sort == x.sort) with
                  | true =>
                   have HE := Lib.hid (HXB.out he)
                   clear HXB HXG
                   go_wp2
                   go_region
                   go_wp2
                   go_ret
                   exact ⟨by rw [HE.out]; rfl, K.out.2.drew⟩
                  | false =>
                   have HZ2 := Lib.hid (HXG.out he)
                   clear HXB HXG
                   go_wp2
                   go_region
                   go_wp2
                   go_roundw
                   case rel => exact ⟨m + 1, by go_num, by omega, HZ2, Lib.hid ⟨K.out.1.drew, K.out.2.drew⟩⟩
                   case measure => simp [intOf]; omega
                 ·have HEn : Hid (∀ (i j : Nat) (x y : FolM), j < i → i < k + 1 → g.follow[j]? = some x → g.follow[i]? = some y → (x.sort == y.sort) = false) := Lib.hid (fun i j x' y' hj hi hx' hy' => by
                   by_cases e : i = k
                   ·subst e; rw [HX1.out] at hy'; cases hy'; exact hM.out j x' (by omega) hx'
                   ·exact hE.out i j x' y' hj (by omega) hx' hy')
                  clear hM hE
                  obtain rfl : k = m := by omega
                  go_wp2
                  go_roundw
                  case rel => exact ⟨k + 1, by go_num, by omega, HA, HEn, K⟩
                  case measure => simp [intOf]; omega
            ·obtain rfl : n4 = k := by omega
             have S6 := Lib.hid (fun (i : Nat) (x : FolM) hx => hS.out i x (by have := (List.getElem?_eq_some_iff.1 hx).1; have := N4.out; omega) hx)
             have S7 := Lib.hid (fun (i j : Nat) (x y : FolM) hj hx hy => hE.out i j x y hj (by have := (List.getElem?_eq_some_iff.1 hy).1; have := N4.out; omega) hx hy)
             have HE := Lib.hid (HQ.out.yes H0.out.1 H0.out.2.1 H0.out.2.2 HR3.out S1.out S2.out S3.out S4.out S5.out S6.out S7.out)
             clear HQ HPr HFo HSo S1 S2 S3 S4 S5 S6 S7 hS hE
             go_wp2
             go_ret
             exact ⟨by rw [HE.out]; rfl, K.out.2⟩
end Go.Proofs.YtodnlcbnbkkanaaGreatDoor
end
section
namespace Go.Proofs.YtodnlcbnbkkanaaGreatDoor
open Go Go.RowKit

theorem index47_0 (a b c d : Value) (w : World) : (Instr.index 47 (.agg #[a, b, c, d]) (.int .i64 0)).run Tryz.prog w = .ok a w := by kernel_rfl
theorem index47_1 (a b c d : Value) (w : World) : (Instr.index 47 (.agg #[a, b, c, d]) (.int .i64 1)).run Tryz.prog w = .ok b w := by kernel_rfl
theorem index47_2 (a b c d : Value) (w : World) : (Instr.index 47 (.agg #[a, b, c, d]) (.int .i64 2)).run Tryz.prog w = .ok c w := by kernel_rfl
theorem index47_3 (a b c d : Value) (w : World) : (Instr.index 47 (.agg #[a, b, c, d]) (.int .i64 3)).run Tryz.prog w = .ok d w := by kernel_rfl
def SetAt (cs : Array Value) (off : Nat) (s : BS) : Prop := CsAt cs off (cset s)
theorem set_cell {cs : Array Value} {off : Nat} {s : BS} (h : SetAt cs off s) {j : Nat} (hj : j < 4) : cs[off + j]? = some (.int .u64 (wdI s j)) := by
 refine h j _ ?_
 have : j = 0 ∨ j = 1 ∨ j = 2 ∨ j = 3 := by omega
 rcases this with rfl | rfl | rfl | rfl <;> rfl
theorem setAt_of {cs : Array Value} {off : Nat} {s : BS} (h : ∀ j, j < 4 → cs[off + j]? = some (.int .u64 (wdI s j))) : SetAt cs off s := fun j v hj => by
 have hl : j < 4 := by
  have := (Array.getElem?_eq_some_iff.1 hj).1
  simpa [cset] using this
 rw [h j hl, ← hj]
 have : j = 0 ∨ j = 1 ∨ j = 2 ∨ j = 3 := by omega
 rcases this with rfl | rfl | rfl | rfl <;> rfl
structure GrowI (w : World) (B t off : Nat) (cs : Array Value) (s m : BS) (i : Nat) (W : World) : Prop where
 ex : ∃ ds, Blk W B t ds ∧ ds.size = cs.size ∧ (∀ k, k < off ∨ off + 4 ≤ k → ds[k]? = cs[k]?) ∧ ∀ j, j < 4 → ds[off + j]? = some (.int .u64 (wdI (if j < i then s ||| m else s) j))
 old : Blk W (w.heap.size + 1) 47 (cset s)
 g : w.grownBy W (some B)
 hi : w.heap.size + 2 ≤ W.heap.size
theorem GrowI.step {w : World} {B t off : Nat} {cs : Array Value} {s m : BS} {i : Nat} {W : World} (h : GrowI w B t off cs s m i W) (hi : i < 4) (hB : B < w.heap.size) : GrowI w B t off cs s m (i + 1) (W.setCell ⟨B, off + i, none⟩ (.int .u64 (wdI (s ||| m) i))) := by
 obtain ⟨ds, h1, h2, h3, h4⟩ := h.ex
 refine ⟨⟨_, h1.set (off + i) (.int .u64 (wdI (s ||| m) i)), by rw [Array.size_setIfInBounds]; exact h2, fun k hk => by rw [Array.getElem?_setIfInBounds_ne (by omega)]; exact h3 k hk, fun j hj => ?_⟩, h.old.other (by show w.heap.size + 1 ≠ B; omega) _, grown_trans h.g (grown_set W B _ _), by rw [World.size_setCell]; exact h.hi⟩
 by_cases e : j = i
 ·subst e
  have hl := (Array.getElem?_eq_some_iff.1 (h4 j hj)).1
  rw [Array.getElem?_setIfInBounds_self_of_lt hl, if_pos (by omega)]
 ·rw [Array.getElem?_setIfInBounds_ne (by omega), h4 j hj]
  by_cases e2 : j < i
  ·rw [if_pos e2, if_pos (by omega)]
  ·rw [if_neg e2, if_neg (by omega)]
theorem grown_below {w W : World} (hb : Below w.heap.size w W) (row : Option Nat) : w.grownBy W row := ⟨hb.os, hb.tape, hb.output, hb.size, fun j hj _ => hb.block j hj⟩
theorem GrowI.drew {w : World} {B t off : Nat} {cs : Array Value} {s m : BS} {i : Nat} {W : World} (h : GrowI w B t off cs s m i W) : GrowI w B t off cs s m i W.drew := ⟨h.ex, h.old, grown_trans h.g (grown_below (Below.refl W.heap.size W).drew _), h.hi⟩
def GrowPost (w : World) (B t off : Nat) (cs : Array Value) (s m : BS) (e : Ending) (w' : World) : Prop := e = .returned (.bool (!(s ||| m == s))) ∧ w.grownBy w' (some B) ∧ ∃ ds, Blk w' B t ds ∧ ds.size = cs.size ∧ (∀ k, k < off ∨ off + 4 ≤ k → ds[k]? = cs[k]?) ∧ SetAt ds off (s ||| m)

set_option maxRecDepth 100000 in
set_option maxHeartbeats 4000000 in
theorem grow_any (B t off : Nat) (cs : Array Value) (s m : BS) (w : World) (hB : Blk w B t cs) (hs : SetAt cs off s) : Calls Tryz.prog 105 #[.pointer (some ⟨B, off, none⟩), vset m] w (GrowPost w B t off cs s m) := by
 have hBl := hB.lt
 have HI0 : Hid (GrowI w B t off cs s m 0 ((w.alloc (.cells (cset m) 47)).alloc (.cells (cset s) 47))) := Lib.hid (by
  have h2 := Blk.new (w.alloc (.cells (cset m) 47)) 47 (cset s)
  rw [World.size_alloc] at h2
  exact ⟨⟨cs, (hB.alloc _).alloc _, rfl, fun _ _ => rfl, fun j hj => by rw [if_neg (by omega)]; exact set_cell hs hj⟩, h2, grown_trans (World.grownBy_alloc w _ _) (World.grownBy_alloc _ _ _), by simp⟩)
 have b0 := (hB.cell (off + 0)).trans (set_cell hs (j := 0) (by decide))
 have b1 := (hB.cell (off + 1)).trans (set_cell hs (j := 1) (by decide))
 have b2 := (hB.cell (off + 2)).trans (set_cell hs (j := 2) (by decide))
 have b3 := (hB.cell (off + 3)).trans (set_cell hs (j := 3) (by decide))
 rw [Nat.add_zero] at b0
 have HOr : Hid (∀ j, bits .or .u64 (wdI s j) (wdI m j) = wdI (s ||| m) j) := Lib.hid (fun j => wdI_or s m j)
 clear hB hs
 unfold vset
 unfold cset at HI0
 go_enter Tryz.func105, Tryz.ntmps105
 go_wp2
 go_loopw [12] (fun vi wr => ∃ i : Nat, vi = .int .i64 i ∧ i ≤ 4 ∧ Hid (GrowI w B t off cs s m i wr)) (fun vi _ => 4 - (intOf vi).toNat)
 case atStart => exact ⟨0, rfl, Nat.zero_le _, HI0⟩
 case round =>
  clear HI0 b0 b1 b2 b3
  obtain ⟨i, rfl, hi, K⟩ := hrel
  obtain ⟨ds, h1, h2, h3, h4⟩ := K.out.ex
  have lB := h1.lt
  by_cases hlt : i < 4
  ·have HZ := Lib.hid (K.out.step hlt hBl)
   have ho := HOr.out i
   have c0 := (h1.cell (off + i)).trans (h4 i hlt)
   rw [if_neg (Nat.lt_irrefl i)] at c0
   have f0 := h1.frozen (off + i)
   clear h1 h2 h3 h4 K
   have hcase : i = 0 ∨ i = 1 ∨ i = 2 ∨ i = 3 := by omega
   rcases hcase with rfl | rfl | rfl | rfl
   ·have hx := fun W => index47_0 (.int .u64 (wdI m 0)) (.int .u64 (wdI m 1)) (.int .u64 (wdI m 2)) (.int .u64 (wdI m 3)) W
    have HZ' := HZ.out
    rw [Nat.add_zero] at HZ' c0 f0
    have HZ := Lib.hid HZ'
    clear HZ'
    go_wp2
    go_region
    all_goals (
     go_wp2
     go_roundw
     case rel => exact ⟨1, by go_num, by omega, Lib.hid HZ.out.drew⟩
     case measure => simp [intOf] <;> omega)
   ·have hx := fun W => index47_1 (.int .u64 (wdI m 0)) (.int .u64 (wdI m 1)) (.int .u64 (wdI m 2)) (.int .u64 (wdI m 3)) W
    go_wp2
    go_region
    all_goals (
     go_wp2
     go_roundw
     case rel => exact ⟨2, by go_num, by omega, Lib.hid HZ.out.drew⟩
     case measure => simp [intOf] <;> omega)
   ·have hx := fun W => index47_2 (.int .u64 (wdI m 0)) (.int .u64 (wdI m 1)) (.int .u64 (wdI m 2)) (.int .u64 (wdI m 3)) W
    go_wp2
    go_region
    all_goals (
     go_wp2
     go_roundw
     case rel => exact ⟨3, by go_num, by omega, Lib.hid HZ.out.drew⟩
     case measure => simp [intOf] <;> omega)
   ·have hx := fun W => index47_3 (.int .u64 (wdI m 0)) (.int .u64 (wdI m 1)) (.int .u64 (wdI m 2)) (.int .u64 (wdI m 3)) W
    go_wp2
    go_region
    all_goals (
     go_wp2
     go_roundw
     case rel => exact ⟨4, by go_num, by omega, Lib.hid HZ.out.drew⟩
     case measure => simp [intOf] <;> omega)
  ·obtain rfl : i = 4 := by omega
   have d0 := K.out.old.cell 0
   have d1 := K.out.old.cell 1
   have d2 := K.out.old.cell 2
   have d3 := K.out.old.cell 3
   unfold cset at d0 d1 d2 d3
   simp only [List.getElem?_toArray, List.getElem?_cons_zero, List.getElem?_cons_succ] at d0 d1 d2 d3
   have dl := K.out.old.lt
   have b0 := (h1.cell (off + 0)).trans (h4 0 (by decide))
   have b1 := (h1.cell (off + 1)).trans (h4 1 (by decide))
   have b2 := (h1.cell (off + 2)).trans (h4 2 (by decide))
   have b3 := (h1.cell (off + 3)).trans (h4 3 (by decide))
   rw [if_pos (by decide)] at b0 b1 b2 b3
   rw [Nat.add_zero] at b0
   have HE := eq_sets (s ||| m) s
   have HZ : Hid (∀ k, GrowPost w B t off cs s m (.returned (.bool (!(s ||| m == s)))) (wr.drewN k)) := Lib.hid (fun k => by
    have hb := below_drewN (Below.refl wr.heap.size wr) k
    exact ⟨rfl, grown_trans K.out.g (grown_below hb _), ds, h1.below hb lB, h2, h3, setAt_of fun j hj => by rw [h4 j hj, if_pos hj]⟩)
   clear h1 h2 h3 h4 K HOr
   go_wp2
   go_region
   all_goals (
    go_wp2
    go_ret
    first | exact HZ.out 1 | exact HZ.out 2)
end Go.Proofs.YtodnlcbnbkkanaaGreatDoor
end
section
namespace Go.Proofs.YtodnlcbnbkkanaaGreatDoor
open Go Go.RowKit

def setsC (L : List BS) : Array Value := (cellsL cset L).toArray
theorem setsC_size (L : List BS) : (setsC L).size = L.length * 4 := by unfold setsC; rw [List.size_toArray]; exact cellsL_length (cs := cset) (fun _ => rfl) L
theorem setsC_at {L : List BS} {k : Nat} {s : BS} (h : L[k]? = some s) : SetAt (setsC L) (k * 4) s := fun j v hj => by
 have hl : j < 4 := by
  have := (Array.getElem?_eq_some_iff.1 hj).1
  simpa [cset] using this
 unfold setsC
 rw [List.getElem?_toArray, cellsL_at (cs := cset) (k := 4) (fun _ => rfl) L k s h j hl]
 exact hj
theorem cells4q {W : World} {B t : Nat} {u0 u1 u2 u3 : Value} (h : Blk W B t #[u0, u1, u2, u3]) : W.cell? ⟨B, 0, none⟩ = some u0 ∧ W.cell? ⟨B, 1, none⟩ = some u1 ∧ W.cell? ⟨B, 2, none⟩ = some u2 ∧ W.cell? ⟨B, 3, none⟩ = some u3 := ⟨h.cell 0, h.cell 1, h.cell 2, h.cell 3⟩
theorem cells6q {W : World} {B t : Nat} {u0 u1 u2 u3 u4 u5 : Value} (h : Blk W B t #[u0, u1, u2, u3, u4, u5]) : W.cell? ⟨B, 0, none⟩ = some u0 ∧ W.cell? ⟨B, 1, none⟩ = some u1 ∧ W.cell? ⟨B, 2, none⟩ = some u2 ∧ W.cell? ⟨B, 3, none⟩ = some u3 ∧ W.cell? ⟨B, 4, none⟩ = some u4 ∧ W.cell? ⟨B, 5, none⟩ = some u5 :=
 ⟨h.cell 0, h.cell 1, h.cell 2, h.cell 3, h.cell 4, h.cell 5⟩
def symF (L : List BS) (s : SymM) : BS := if s.kind = 0 then s.set else L.getD s.sort.toNat 0#256
def symE (M : List Bool) (s : SymM) : Bool := if s.kind = 0 then false else lv M s.sort

set_option maxRecDepth 100000 in
set_option maxHeartbeats 4000000 in
theorem bof_any (L : List BS) (M : List Bool) (Bb Be n : Nat) (s : SymM) (w : World) (hb : Blk w Bb 47 (setsC L)) (he : Blk w Be 4 (bools M)) (hL : L.length = n) (hM : M.length = n) (hn : n ≤ 1000) (hk : s.kind = 0 ∨ s.kind = 1) (hs : s.kind = 1 → ∃ k : Nat, s.sort = k ∧ k < n) :
  Calls Tryz.prog 104 #[.agg #[.slice (some ⟨Bb, 0, none⟩) n n, .slice (some ⟨Be, 0, none⟩) n n], symV s] w fun e w' => e = .returned (.tuple #[vset (symF L s), .bool (symE M s)]) ∧ Below w.heap.size w w' := by
 have lb := hb.lt
 have le := he.lt
 rcases hk with hk | hk
 ·have e1 : symF L s = s.set := by unfold symF; rw [if_pos hk]
  have e2 : symE M s = false := by unfold symE; rw [if_pos hk]
  rw [e1, e2]
  obtain ⟨sk, ss, so⟩ := s
  dsimp only at *
  subst hk
  unfold symV symC vset
  have hbk := Blk.new ((w.alloc (.cells #[.slice (some ⟨Bb, 0, none⟩) n n, .slice (some ⟨Be, 0, none⟩) n n] 118)).alloc (.cells #[.int .i64 0, .int .u64 (wdI ss 0), .int .u64 (wdI ss 1), .int .u64 (wdI ss 2), .int .u64 (wdI ss 3), .int .i64 so] 60)) 47 (cset ss)
  rw [World.size_alloc, World.size_alloc] at hbk
  unfold cset at hbk
  have q0 := hbk.cell 0
  have q1 := hbk.cell 1
  have q2 := hbk.cell 2
  have q3 := hbk.cell 3
  simp only [List.getElem?_toArray, List.getElem?_cons_zero, List.getElem?_cons_succ] at q0 q1 q2 q3
  have HB : Hid (Below w.heap.size w (((w.alloc (.cells #[.slice (some ⟨Bb, 0, none⟩) n n, .slice (some ⟨Be, 0, none⟩) n n] 118)).alloc (.cells #[.int .i64 0, .int .u64 (wdI ss 0), .int .u64 (wdI ss 1), .int .u64 (wdI ss 2), .int .u64 (wdI ss 3), .int .i64 so] 60)).alloc (.cells #[.int .u64 (wdI ss 0), .int .u64 (wdI ss 1), .int .u64 (wdI ss 2), .int .u64 (wdI ss 3)] 47))) := Lib.hid ((((Below.refl _ _).alloc (Nat.le_refl _) _).alloc (by simp) _).alloc (by simp; omega) _)
  clear hbk e1 e2 hb he hs
  go_enter Tryz.func104, Tryz.ntmps104
  go_wp2
  refine bodyPost_ret (v := .tuple #[.agg #[.int .u64 (wdI ss 0), .int .u64 (wdI ss 1), .int .u64 (wdI ss 2), .int .u64 (wdI ss 3)], .bool false]) (by simp [results, Tryz.results104, go_sem, q0, q1, q2, q3]) rfl ⟨rfl, ?_⟩
  exact HB.out
 ·obtain ⟨k, hso, hkn⟩ := hs hk
  obtain ⟨t, ht⟩ : ∃ t, L[k]? = some t := ⟨_, List.getElem?_eq_getElem (by omega)⟩
  have e1 : symF L s = t := by unfold symF; rw [if_neg (by omega), hso, Int.toNat_natCast, List.getD_eq_getElem?_getD, ht]; rfl
  obtain ⟨v, hv⟩ : ∃ v, v = lv M (k : Int) := ⟨_, rfl⟩
  have e2 : symE M s = v := by unfold symE; rw [if_neg (by omega), hso, ← hv]
  rw [e1, e2]
  have hS := setsC_at ht
  have c0 := (hb.cell (k * 4 + 0)).trans (set_cell hS (j := 0) (by decide))
  have c1 := (hb.cell (k * 4 + 1)).trans (set_cell hS (j := 1) (by decide))
  have c2 := (hb.cell (k * 4 + 2)).trans (set_cell hS (j := 2) (by decide))
  have c3 := (hb.cell (k * 4 + 3)).trans (set_cell hS (j := 3) (by decide))
  rw [Nat.add_zero] at c0
  have cm := he.cell k
  rw [bools_at _ _ (by omega), ← hv] at cm
  obtain ⟨sk, ss, so⟩ := s
  dsimp only at *
  subst hk hso
  have z1 : (k : Int) < (n : Int) := by omega
  have z0 : (0 : Int) ≤ (k : Int) := by omega
  unfold symV symC vset
  have hB3 : Below w.heap.size w (((w.alloc (.cells #[.slice (some ⟨Bb, 0, none⟩) n n, .slice (some ⟨Be, 0, none⟩) n n] 118)).alloc (.cells #[.int .i64 1, .int .u64 (wdI ss 0), .int .u64 (wdI ss 1), .int .u64 (wdI ss 2), .int .u64 (wdI ss 3), .int .i64 (k : Int)] 60)).alloc (.cells #[.int .u64 0, .int .u64 0, .int .u64 0, .int .u64 0] 47)) := (((Below.refl _ _).alloc (Nat.le_refl _) _).alloc (by simp) _).alloc (by simp; omega) _
  have hk1 := ((Blk.new w 118 #[.slice (some ⟨Bb, 0, none⟩) n n, .slice (some ⟨Be, 0, none⟩) n n]).alloc (.cells #[.int .i64 1, .int .u64 (wdI ss 0), .int .u64 (wdI ss 1), .int .u64 (wdI ss 2), .int .u64 (wdI ss 3), .int .i64 (k : Int)] 60)).alloc (.cells #[.int .u64 0, .int .u64 0, .int .u64 0, .int .u64 0] 47)
  have hk2 := (Blk.new (w.alloc (.cells #[.slice (some ⟨Bb, 0, none⟩) n n, .slice (some ⟨Be, 0, none⟩) n n] 118)) 60 #[.int .i64 1, .int .u64 (wdI ss 0), .int .u64 (wdI ss 1), .int .u64 (wdI ss 2), .int .u64 (wdI ss 3), .int .i64 (k : Int)]).alloc (.cells #[.int .u64 0, .int .u64 0, .int .u64 0, .int .u64 0] 47)
  have hk3 := Blk.new ((w.alloc (.cells #[.slice (some ⟨Bb, 0, none⟩) n n, .slice (some ⟨Be, 0, none⟩) n n] 118)).alloc (.cells #[.int .i64 1, .int .u64 (wdI ss 0), .int .u64 (wdI ss 1), .int .u64 (wdI ss 2), .int .u64 (wdI ss 3), .int .i64 (k : Int)] 60)) 47 #[.int .u64 0, .int .u64 0, .int .u64 0, .int .u64 0]
  rw [World.size_alloc] at hk2
  rw [World.size_alloc, World.size_alloc] at hk3
  obtain ⟨W, hW⟩ : ∃ W, W = ((w.alloc (.cells #[.slice (some ⟨Bb, 0, none⟩) n n, .slice (some ⟨Be, 0, none⟩) n n] 118)).alloc (.cells #[.int .i64 1, .int .u64 (wdI ss 0), .int .u64 (wdI ss 1), .int .u64 (wdI ss 2), .int .u64 (wdI ss 3), .int .i64 (k : Int)] 60)).alloc (.cells #[.int .u64 0, .int .u64 0, .int .u64 0, .int .u64 0] 47) := ⟨_, rfl⟩
  have HW := Lib.hid hW
  rw [← hW] at hB3 hk1 hk2 hk3
  have c0 := (hB3.cell (p := ⟨Bb, k * 4, none⟩) lb).trans c0
  have c1 := (hB3.cell (p := ⟨Bb, k * 4 + 1, none⟩) lb).trans c1
  have c2 := (hB3.cell (p := ⟨Bb, k * 4 + 2, none⟩) lb).trans c2
  have c3 := (hB3.cell (p := ⟨Bb, k * 4 + 3, none⟩) lb).trans c3
  have cm := (hB3.cell (p := ⟨Be, k, none⟩) le).trans cm
  have lb := Nat.lt_of_lt_of_le lb hB3.size
  have le := Nat.lt_of_lt_of_le le hB3.size
  have a0 := hk1.cell 0
  have a1 := hk1.cell 1
  have al := hk1.lt
  obtain ⟨s0, s1, s2, s3, s4, s5⟩ := cells6q hk2
  have sl := hk2.lt
  obtain ⟨r0, r1, r2, r3⟩ := cells4q hk3
  have f0 := hk3.frozen 0
  have f1 := hk3.frozen 1
  have f2 := hk3.frozen 2
  have f3 := hk3.frozen 3
  have rl := hk3.lt
  simp only [List.getElem?_toArray, List.getElem?_cons_zero, List.getElem?_cons_succ] at a0 a1
  have hend : Blk (((((W.setCell ⟨w.heap.size + 1 + 1, 0, none⟩ (.int .u64 (wdI t 0))).setCell ⟨w.heap.size + 1 + 1, 1, none⟩ (.int .u64 (wdI t 1))).setCell ⟨w.heap.size + 1 + 1, 2, none⟩ (.int .u64 (wdI t 2))).setCell ⟨w.heap.size + 1 + 1, 3, none⟩ (.int .u64 (wdI t 3))).drew) (w.heap.size + 1 + 1) 47 #[.int .u64 (wdI t 0), .int .u64 (wdI t 1), .int .u64 (wdI t 2), .int .u64 (wdI t 3)] := ((((hk3.set 0 (.int .u64 (wdI t 0))).set 1 (.int .u64 (wdI t 1))).set 2 (.int .u64 (wdI t 2))).set 3 (.int .u64 (wdI t 3))).drew
  have hlow : w.heap.size ≤ w.heap.size + 1 + 1 := by omega
  have HEnd : Hid (Below w.heap.size w (((((W.setCell ⟨w.heap.size + 1 + 1, 0, none⟩ (.int .u64 (wdI t 0))).setCell ⟨w.heap.size + 1 + 1, 1, none⟩ (.int .u64 (wdI t 1))).setCell ⟨w.heap.size + 1 + 1, 2, none⟩ (.int .u64 (wdI t 2))).setCell ⟨w.heap.size + 1 + 1, 3, none⟩ (.int .u64 (wdI t 3))).drew) ∧ Blk (((((W.setCell ⟨w.heap.size + 1 + 1, 0, none⟩ (.int .u64 (wdI t 0))).setCell ⟨w.heap.size + 1 + 1, 1, none⟩ (.int .u64 (wdI t 1))).setCell ⟨w.heap.size + 1 + 1, 2, none⟩ (.int .u64 (wdI t 2))).setCell ⟨w.heap.size + 1 + 1, 3, none⟩ (.int .u64 (wdI t 3))).drew) (w.heap.size + 1 + 1) 47 #[.int .u64 (wdI t 0), .int .u64 (wdI t 1), .int .u64 (wdI t 2), .int .u64 (wdI t 3)]) := Lib.hid ⟨((((hB3.setCell (p := ⟨w.heap.size + 1 + 1, 0, none⟩) hlow _).setCell (p := ⟨w.heap.size + 1 + 1, 1, none⟩) hlow _).setCell (p := ⟨w.heap.size + 1 + 1, 2, none⟩) hlow _).setCell (p := ⟨w.heap.size + 1 + 1, 3, none⟩) hlow _).drew, hend⟩
  clear e1 e2 hb he hv ht hS hL hM hkn hk1 hk2 hk3 hW hend
  go_enter Tryz.func104, Tryz.ntmps104
  go_upto_region 3 with fail
  rw [← HW.out]
  go_wp2
  go_region
  all_goals (
   go_wp2
   obtain ⟨V, hV⟩ : ∃ V, V = ((((W.setCell ⟨w.heap.size + 1 + 1, 0, none⟩ (.int .u64 (wdI t 0))).setCell ⟨w.heap.size + 1 + 1, 1, none⟩ (.int .u64 (wdI t 1))).setCell ⟨w.heap.size + 1 + 1, 2, none⟩ (.int .u64 (wdI t 2))).setCell ⟨w.heap.size + 1 + 1, 3, none⟩ (.int .u64 (wdI t 3))).drew := ⟨_, rfl⟩
   rw [← hV] at HEnd ⊢
   obtain ⟨q0, q1, q2, q3⟩ := cells4q HEnd.out.2
   clear hV
   refine bodyPost_ret (v := .tuple #[.agg #[.int .u64 (wdI t 0), .int .u64 (wdI t 1), .int .u64 (wdI t 2), .int .u64 (wdI t 3)], .bool v]) (by simp [results, Tryz.results104, go_sem, q0, q1, q2, q3]) rfl ⟨rfl, ?_⟩
   exact HEnd.out.1)
end Go.Proofs.YtodnlcbnbkkanaaGreatDoor
end
section
namespace Go.Proofs.YtodnlcbnbkkanaaGreatDoor
open Go Go.RowKit

def cntZ (s : BS) : Nat := (List.range 256).countP fun b => !s.getLsbD b
theorem countP_less {p q : Nat → Bool} {c : Nat} : ∀ {l : List Nat}, c ∈ l → p c = true → q c = false → (∀ x, q x = true → p x = true) → l.countP q < l.countP p := by
 intro l
 induction l with
 | nil => intro h; cases h
 | cons y r ih =>
  intro h hp hq hi
  rw [List.countP_cons, List.countP_cons]
  have hmono : r.countP q ≤ r.countP p := List.countP_mono_left fun x _ hx => hi x hx
  rcases List.mem_cons.1 h with rfl | h
  ·rw [hp, hq]; simp; omega
  ·have := ih h hp hq hi
   by_cases hy : q y = true
   ·rw [hy, hi y hy]; simp; omega
   ·have : q y = false := by simpa using hy
    rw [this]; simp; split <;> omega
theorem or_bit {s m : BS} (h : s ||| m ≠ s) : ∃ b, b < 256 ∧ m.getLsbD b = true ∧ s.getLsbD b = false := by
 apply Classical.byContradiction
 intro hn
 refine h (BitVec.eq_of_getLsbD_eq fun i hi => ?_)
 rw [BitVec.getLsbD_or]
 cases hs : s.getLsbD i with
 | true => rfl
 | false =>
  cases hm : m.getLsbD i with
  | false => rfl
  | true => exact absurd ⟨i, hi, hm, hs⟩ hn
theorem cntZ_or {s m : BS} (h : s ||| m ≠ s) : cntZ (s ||| m) < cntZ s := by
 obtain ⟨b, hb, h1, h2⟩ := or_bit h
 refine countP_less (c := b) (List.mem_range.2 hb) (by rw [h2]; rfl) (by rw [BitVec.getLsbD_or, h1]; simp) fun x hx => ?_
 rw [BitVec.getLsbD_or] at hx
 simp only [Bool.not_or, Bool.and_eq_true] at hx
 exact hx.1
def sizeZ (L : List BS) : Nat := (L.map cntZ).foldr (· + ·) 0
theorem sizeZ_cons (s : BS) (L : List BS) : sizeZ (s :: L) = cntZ s + sizeZ L := rfl
theorem sizeZ_set : ∀ {L : List BS} {k : Nat} {s t : BS}, L[k]? = some s → cntZ t < cntZ s → sizeZ (L.set k t) < sizeZ L := by
 intro L
 induction L with
 | nil => intro k s t h; simp at h
 | cons a r ih =>
  intro k s t h hl
  cases k with
  | zero => simp at h; subst h; rw [List.set_cons_zero, sizeZ_cons, sizeZ_cons]; omega
  | succ k =>
   rw [List.set_cons_succ, sizeZ_cons, sizeZ_cons]
   have := ih (k := k) (by simpa using h) hl
   omega
theorem sub_bit {s m : BS} (h : s ||| m = s) {b : Nat} (hb : m.getLsbD b = true) : s.getLsbD b = true := by
 rw [← h, BitVec.getLsbD_or, hb, Bool.or_true]

def FirstP (g : GramM) (F : List BS) : Prop := F.length = g.sorts.length ∧ ∀ (k : Nat) (s : BS), F[k]? = some s → ∀ b : UInt8, s.getLsbD b.toNat = true ↔ ∃ t, TX g k (b :: t)
theorem bs_ext {s t : BS} (h : ∀ b : UInt8, s.getLsbD b.toNat = true ↔ t.getLsbD b.toNat = true) : s = t := by
 refine BitVec.eq_of_getLsbD_eq fun i hi => ?_
 have := h (UInt8.ofNat i)
 rw [UInt8.toNat_ofNat', Nat.mod_eq_of_lt (by omega)] at this
 cases c : s.getLsbD i <;> cases d : t.getLsbD i <;> rw [c, d] at this <;> simp at this <;> rfl
theorem FirstP.unique {g : GramM} {F F' : List BS} (h : FirstP g F) (h' : FirstP g F') : F = F' := by
 refine List.ext_getElem (h.1.trans h'.1.symm) fun k h1 h2 => bs_ext fun b => ?_
 rw [h.2 k _ (List.getElem?_eq_getElem h1) b, h'.2 k _ (List.getElem?_eq_getElem h2) b]
def SoundF (g : GramM) (F : List BS) : Prop := ∀ (k : Nat) (s : BS), F[k]? = some s → ∀ b : UInt8, s.getLsbD b.toNat = true → ∃ t, TX g k (b :: t)
theorem SoundF.none (g : GramM) : SoundF g (List.replicate g.sorts.length 0#256) := fun k s hk b hb => by
 rw [List.getElem?_replicate] at hk
 split at hk
 ·cases hk; simp at hb
 ·cases hk
def AheadE (M : List Bool) (l : List SymM) (i : Nat) : Prop := ∀ (j : Nat) (s : SymM), j < i → l[j]? = some s → symE M s = true
def QuietF (M : List Bool) (x : ProdM) (F : List BS) : Prop := ∀ (i : Nat) (s : SymM), x.right[i]? = some s → AheadE M x.right i → F.getD x.left.toNat 0#256 ||| symF F s = F.getD x.left.toNat 0#256
theorem symF_text {g : GramM} {F : List BS} (hF : SoundF g F) {s : SymM} (hk : s.kind = 0 ∨ s.kind = 1) {b : UInt8} (hb : (symF F s).getLsbD b.toNat = true) : ∃ t, SymT (TX g) s (b :: t) := by
 unfold symF at hb
 by_cases h0 : s.kind = 0
 ·rw [if_pos h0] at hb
  exact ⟨[], .inr ⟨by omega, b, rfl, hb⟩⟩
 ·rw [if_neg h0] at hb
  rw [List.getD_eq_getElem?_getD] at hb
  cases e : F[s.sort.toNat]? with
  | none => rw [e] at hb; simp at hb
  | some t =>
   rw [e] at hb
   obtain ⟨u, hu⟩ := hF _ t e b hb
   exact ⟨u, .inl ⟨by omega, hu⟩⟩
theorem symE_text {g : GramM} {M : List Bool} (hM : NullP g M) {s : SymM} (hk : s.kind = 0 ∨ s.kind = 1) (h : symE M s = true) : SymT (TX g) s [] := by
 unfold symE at h
 by_cases h0 : s.kind = 0
 ·rw [if_pos h0] at h; cases h
 ·rw [if_neg h0] at h
  exact .inl ⟨by omega, (hM.2 _).1 (by
   unfold lv at h
   rw [List.getD_eq_getElem?_getD] at h
   cases e : M[s.sort.toNat]? with
   | none => rw [e] at h; simp at h
   | some v => rw [e] at h; simp at h; rw [h])⟩
theorem SoundF.step {g : GramM} (hm : MayB g) {M L : List Bool} (hM : NullP g M) (hL : Live g L) (hs : MaySet g) {F : List BS} (hF : SoundF g F) {x : ProdM} (hx : x ∈ livL g L) {i : Nat} {s : SymM} (hi : x.right[i]? = some s) (ha : AheadE M x.right i) : SoundF g (F.set x.left.toNat (F.getD x.left.toNat 0#256 ||| symF F s)) := by
 obtain ⟨hxm, hr, hlv⟩ := livL_mem.1 hx
 intro k t hk b hb
 rw [List.getElem?_set] at hk
 split at hk
 ·next e =>
  split at hk
  ·next hlt =>
   cases hk
   subst e
   rw [BitVec.getLsbD_or, Bool.or_eq_true] at hb
   rcases hb with hb | hb
   ·rw [List.getD_eq_getElem?_getD, List.getElem?_eq_getElem hlt] at hb
    exact hF _ _ (List.getElem?_eq_getElem hlt) b hb
   ·obtain ⟨u, hu⟩ := symF_text hF (hm.kind x hxm s (List.mem_of_getElem? hi)) hb
    have e1 : x.right = x.right.take i ++ s :: x.right.drop (i + 1) := by
     have hil := (List.getElem?_eq_some_iff.1 hi).1
     have := (List.getElem?_eq_some_iff.1 hi).2
     rw [← this, List.getElem_cons_drop, List.take_append_drop]
    have h1 : ∀ (l : List SymM), (∀ y, y ∈ l → SymT (TX g) y []) → TXs (TX g) l [] := by
     intro l
     induction l with
     | nil => intro _; rfl
     | cons y r ih => intro h; exact ⟨[], [], rfl, h y (by simp), ih fun z hz => h z (by simp [hz])⟩
    have hp := h1 (x.right.take i) (fun y hy => by
     obtain ⟨j, hj⟩ := List.mem_iff_getElem?.1 hy
     have hjl := (List.getElem?_eq_some_iff.1 hj).1
     rw [List.length_take] at hjl
     rw [List.getElem?_take, if_pos (by omega)] at hj
     exact symE_text hM (hm.kind x hxm y (List.mem_of_getElem? hj)) (ha j y (by omega) hj))
    obtain ⟨v, hv⟩ : ∃ v, TXs (TX g) (x.right.drop (i + 1)) v := txs_of fun y hy => by
     have hym : y ∈ x.right := List.mem_of_mem_drop hy
     by_cases hyk : y.kind = 1
     ·rw [List.any_eq_false] at hlv
      have := hlv y hym
      unfold lacksQ at this
      rw [hyk] at this
      have hl : lv L y.sort = true := by simpa using this
      have hpv : PV g y.sort.toNat := (hL.2 _).1 (by
       unfold lv at hl
       rw [List.getD_eq_getElem?_getD] at hl
       cases e : L[y.sort.toNat]? with
       | none => rw [e] at hl; simp at hl
       | some v => rw [e] at hl; simp at hl; rw [hl])
      obtain ⟨t, ht⟩ := (pv_iff hs).1 hpv
      exact ⟨t, .inl ⟨hyk, ht⟩⟩
     ·obtain ⟨c, hc⟩ := bv_bit (hs.set x hxm y hym hyk).2
      exact ⟨[c], .inr ⟨hyk, c, rfl, hc⟩⟩
    have hall : TXs (TX g) x.right ([] ++ ((b :: u) ++ v)) := by
     rw [e1]
     exact hp.append ⟨b :: u, v, rfl, hu, hv⟩
    exact ⟨u ++ v, TX.mk hxm hr hall⟩
  ·cases hk
 ·exact hF k t hk b hb
theorem firstP_of {g : GramM} (hm : MayB g) (hs : MaySet g) {M L : List Bool} (hM : NullP g M) (hL : Live g L) {F : List BS} (hlen : F.length = g.sorts.length) (hF : SoundF g F) (hq : ∀ x, x ∈ livL g L → QuietF M x F) : FirstP g F := by
 have key : ∀ {k : Nat} {t : List UInt8}, TX g k t → TX g k t ∧ ∀ b u, t = b :: u → (F.getD k 0#256).getLsbD b.toNat = true := fun {k t} ht => by
  refine TX.ind (P := fun k t => TX g k t ∧ ∀ b u, t = b :: u → (F.getD k 0#256).getLsbD b.toNat = true) (fun x t hx hr h1 h2 => ⟨TX.mk hx hr h1, ?_⟩) ht
  have hxl : x ∈ livL g L := by
   refine livL_mem.2 ⟨hx, hr, ?_⟩
   rw [List.any_eq_false]
   intro s hsx
   unfold lacksQ
   by_cases hkk : s.kind = 1
   ·obtain ⟨v, hv⟩ := txs_syms h1 s hsx hkk
    have hpv := (hL.2 _).2 ((pv_iff hs).2 ⟨v, hv⟩)
    have : lv L s.sort = true := by
     unfold lv
     rw [List.getD_eq_getElem?_getD, hpv]
     rfl
    rw [this]; simp
   ·have : (s.kind == 1) = false := by simpa using hkk
    rw [this]; simp
  have hQ := hq x hxl
  have walk : ∀ (l : List SymM) (i : Nat) (t : List UInt8), x.right.drop i = l → AheadE M x.right i → TXs (fun k t => TX g k t ∧ ∀ b u, t = b :: u → (F.getD k 0#256).getLsbD b.toNat = true) l t → ∀ b u, t = b :: u → (F.getD x.left.toNat 0#256).getLsbD b.toNat = true := by
   intro l
   induction l with
   | nil => intro i t _ _ h b u e; cases h; cases e
   | cons s r ih =>
    rintro i t hd ha ⟨a, c, rfl, h3, h4⟩ b u e
    have hi : x.right[i]? = some s := by
     have := congrArg (fun l => l[0]?) hd
     simpa using this
    have hd2 : x.right.drop (i + 1) = r := by
     have := congrArg List.tail hd
     simpa using this
    have hk := hm.kind x hx s (List.mem_of_getElem? hi)
    cases a with
    | cons y ys =>
     rw [List.cons_append, List.cons.injEq] at e
     obtain ⟨rfl, _⟩ := e
     refine sub_bit (hQ i s hi ha) ?_
     unfold symF
     rcases h3 with ⟨hk1, _, h3⟩ | ⟨hk1, c', hc1, hc2⟩
     ·rw [if_neg (by omega)]
      exact h3 _ _ rfl
     ·rw [if_pos (by omega)]
      rw [List.cons.injEq] at hc1
      rw [hc1.1]; exact hc2
    | nil =>
     refine ih (i + 1) c hd2 (fun j s' hj hs' => ?_) h4 b u e
     by_cases ej : j = i
     ·subst ej
      rw [hi] at hs'; cases hs'
      rcases h3 with ⟨hk1, h3, _⟩ | ⟨_, c', hc1, _⟩
      ·unfold symE
       rw [if_neg (by omega)]
       have := (hM.2 _).2 h3
       unfold lv
       rw [List.getD_eq_getElem?_getD, this]
       rfl
      ·cases hc1
     ·exact ha j s' (by omega) hs'
  exact walk x.right 0 t (by simp) (fun j s hj => by omega) h2
 refine ⟨hlen, fun k s hk b => ⟨hF k s hk b, fun ⟨t, ht⟩ => ?_⟩⟩
 have := (key ht).2 b t rfl
 rw [List.getD_eq_getElem?_getD, hk] at this
 exact this
end Go.Proofs.YtodnlcbnbkkanaaGreatDoor
end
