import Derived.StillTailTactics
import Derived.RegionTactic
import Derived.BigRegion
import Derived.Deep.DeepCutAuto
import Derived.Test.YtiihdbchchnncaaM4
import Derived.Test.YtiihdbchchnncaaM6
import Derived.Test.YtiihdbchchnncaaM7
import Derived.Test.YtiihdbchchnncaaM9
import Derived.Test.YtiihdbchchnncaaM10
section
namespace Go.Proofs.Ytiihdbchchnncaa
open Go Go.RowKit Go.Vals

theorem once_no {α : Type} {eq : α → α → Bool} {l : List α} (i k : Nat) (x y : α) (hk : k < i) (hx : l[k]? = some x) (hy : l[i]? = some y) (h : eq x y = true) : onceA eq [] l = false := by
  cases e : onceA eq [] l with
  | false => rfl
  | true =>
    have h1 := ((onceA_iff eq l []).1 e).2
    rw [List.pairwise_iff_getElem] at h1
    obtain ⟨hkl, hkx⟩ := List.getElem?_eq_some_iff.1 hx
    obtain ⟨hil, hiy⟩ := List.getElem?_eq_some_iff.1 hy
    have h2 := h1 k i hkl hil hk
    rw [hkx, hiy, h] at h2
    cases h2
theorem once_yes {α : Type} {eq : α → α → Bool} {l : List α} (h : ∀ (i k : Nat) (x y : α), k < i → l[k]? = some x → l[i]? = some y → eq x y = false) : onceA eq [] l = true := by
  rw [onceA_iff]
  refine ⟨fun x _ y hy => by simp at hy, ?_⟩
  rw [List.pairwise_iff_getElem]
  intro k i hk hi hki
  exact h i k _ _ hki (List.getElem?_eq_getElem hk) (List.getElem?_eq_getElem hi)

/-- What of Check the walk of the reference wants. -/
structure CkP (g : GramM) (q : Int) : Prop where
  f0 : g.sorts.length < 1 → q = 160
  f1 : 1000 < g.sorts.length → q = 160
  f2 : 1000 < g.prods.length → q = 160
  f3 : numB g.start g.sorts.length = false → q = 160
  e1 : ∀ (i : Nat) (s : ByteArray), g.sorts[i]? = some s → nameB s = false → q = 160
  e2 : ∀ (i k : Nat) (x y : ByteArray), k < i → g.sorts[k]? = some x → g.sorts[i]? = some y → strEq x y = true → q = 160
  e3 : ∀ (i : Nat) (x : ProdM), g.prods[i]? = some x → prodB g.sorts.length x = false → q = 160
  e4 : ∀ (i : Nat) (x : ForM), g.forbid[i]? = some x → forbidB g x = false → q = 160
  e5 : ∀ (i k : Nat) (x y : ForM), k < i → g.forbid[k]? = some x → g.forbid[i]? = some y → forEq x y = true → q = 160
  e6 : ∀ (i : Nat) (x : FolM), g.follow[i]? = some x → folB g.sorts.length x = false → q = 160
  e7 : ∀ (i k : Nat) (x y : FolM), k < i → g.follow[k]? = some x → g.follow[i]? = some y → (x.sort == y.sort) = true → q = 160
  yes : 1 ≤ g.sorts.length → g.sorts.length ≤ 1000 → g.prods.length ≤ 1000 → numB g.start g.sorts.length = true →
    (∀ (i : Nat) (s : ByteArray), g.sorts[i]? = some s → nameB s = true) → (∀ (i k : Nat) (x y : ByteArray), k < i → g.sorts[k]? = some x → g.sorts[i]? = some y → strEq x y = false) →
    (∀ (i : Nat) (x : ProdM), g.prods[i]? = some x → prodB g.sorts.length x = true) → (∀ (i : Nat) (x : ForM), g.forbid[i]? = some x → forbidB g x = true) →
    (∀ (i k : Nat) (x y : ForM), k < i → g.forbid[k]? = some x → g.forbid[i]? = some y → forEq x y = false) → (∀ (i : Nat) (x : FolM), g.follow[i]? = some x → folB g.sorts.length x = true) →
    (∀ (i k : Nat) (x y : FolM), k < i → g.follow[k]? = some x → g.follow[i]? = some y → (x.sort == y.sort) = false) → q = 0
theorem all_no {α : Type} {p : α → Bool} {l : List α} (i : Nat) (x : α) (hx : l[i]? = some x) (h : p x = false) : l.all p = false := List.all_eq_false.2 ⟨x, List.mem_of_getElem? hx, by rw [h]; simp⟩
theorem all_yes {α : Type} {p : α → Bool} {l : List α} (h : ∀ (i : Nat) (x : α), l[i]? = some x → p x = true) : l.all p = true := List.all_eq_true.2 fun x hx => by
  obtain ⟨i, hi⟩ := List.mem_iff_getElem?.1 hx
  exact h i x hi
theorem once_mapF {α β : Type} [BEq β] [LawfulBEq β] (f : α → β) (l : List α) : onceA (fun a b => a == b) [] (l.map f) = onceA (fun a b => f a == f b) [] l := by
  rw [Bool.eq_iff_iff, onceA_iff, onceA_iff, List.pairwise_map]
  simp
theorem ckP (g : GramM) : CkP g (errI (checkB g)) := by
  have hn : ∀ {b : Bool}, b = false → errI b = 160 := fun h => by rw [h]; rfl
  unfold checkB sortsB' startB prodsB forbidsB followsB
  rw [once_mapF]
  constructor
  · intro h; refine hn ?_; rw [decide_eq_false (by omega : ¬ 1 ≤ g.sorts.length)]; simp only [Bool.false_and]
  · intro h; refine hn ?_; rw [decide_eq_false (by omega : ¬ g.sorts.length ≤ 1000)]; simp only [Bool.false_and, Bool.and_false]
  · intro h; refine hn ?_; rw [decide_eq_false (by omega : ¬ g.prods.length ≤ 1000)]; simp only [Bool.false_and, Bool.and_false]
  · intro h; refine hn ?_; rw [h]; simp only [Bool.false_and, Bool.and_false]
  · intro i s h1 h2; refine hn ?_; rw [all_no i s h1 h2]; simp only [Bool.false_and, Bool.and_false]
  · intro i k x y h0 h1 h2 h3; refine hn ?_; rw [once_no i k x y h0 h1 h2 h3]; simp only [Bool.false_and, Bool.and_false]
  · intro i s h1 h2; refine hn ?_; rw [all_no i s h1 h2]; simp only [Bool.false_and, Bool.and_false]
  · intro i s h1 h2; refine hn ?_; rw [all_no i s h1 h2]; simp only [Bool.false_and, Bool.and_false]
  · intro i k x y h0 h1 h2 h3; refine hn ?_; rw [once_no i k x y h0 h1 h2 h3]; simp only [Bool.false_and, Bool.and_false]
  · intro i s h1 h2; refine hn ?_; rw [all_no i s h1 h2]; simp only [Bool.false_and, Bool.and_false]
  · intro i k x y h0 h1 h2 h3; refine hn ?_; rw [once_no (eq := fun a b : FolM => a.sort == b.sort) i k x y h0 h1 h2 h3]; simp only [Bool.false_and, Bool.and_false]
  · intro a1 a2 a3 a4 a5 a6 a7 a8 a9 a10 a11
    rw [decide_eq_true a1, decide_eq_true a2, decide_eq_true a3, a4, all_yes a5, once_yes a6, all_yes a7, all_yes a8, once_yes a9, all_yes a10, once_yes (eq := fun a b : FolM => a.sort == b.sort) a11]
    rfl

theorem ld27r {w : World} {o : Oper} {ρ : Operand → Value} {x : Operand} {b : Nat} {v0 v1 v2 v3 v4 : Value} (ho : o.op = .load 27 x) (hx : ρ x = .pointer (some ⟨b, 0, none⟩)) (h : w.cell? ⟨b, 0, none⟩ = some v0 ∧ w.cell? ⟨b, 1, none⟩ = some v1 ∧ w.cell? ⟨b, 2, none⟩ = some v2 ∧ w.cell? ⟨b, 3, none⟩ = some v3 ∧ w.cell? ⟨b, 4, none⟩ = some v4) : (execOp ρ o).run Try.prog w = .ok (.value (.agg #[v0, v1, v2, v3, v4])) w := by
  obtain ⟨c0, c1, c2, c3, c4⟩ := h
  unfold execOp; rw [ho]; simp only [hx]
  go_simp
theorem ld66 {w : World} {o : Oper} {ρ : Operand → Value} {x : Operand} {b q : Nat} {v0 v1 v2 v3 : Value} (ho : o.op = .load 66 x) (hx : ρ x = .pointer (some ⟨b, q, none⟩)) (h : w.cell? ⟨b, q, none⟩ = some v0 ∧ w.cell? ⟨b, q + 1, none⟩ = some v1 ∧ w.cell? ⟨b, q + 2, none⟩ = some v2 ∧ w.cell? ⟨b, q + 3, none⟩ = some v3) : (execOp ρ o).run Try.prog w = .ok (.value (.agg #[v0, v1, v2, v3])) w := by
  obtain ⟨c0, c1, c2, c3⟩ := h
  unfold execOp; rw [ho]; simp only [hx]
  go_simp

set_option maxRecDepth 100000 in
set_option maxHeartbeats 8000000 in
theorem rcheck_any (g : GramM) (w : World) (hg : GIn w g) (hf : FitG g) : Calls Try.prog 12 #[gramV g] w fun e w' => e = .returned (.int .i64 (errI (checkB g))) ∧ Below w.heap.size w w' := by
  have HQ := Lib.hid (ckP g)
  obtain ⟨q, hq⟩ : ∃ q, q = errI (checkB g) := ⟨_, rfl⟩
  rw [← hq] at HQ ⊢
  have HG := Lib.hid hg
  have HF := Lib.hid hf
  obtain ⟨m1, m2, _, m3, m4, _, _⟩ := hf.fit
  have K0 : Hid (Blk (w.alloc (.cells (gramC g) 27)) w.heap.size 27 (gramC g) ∧ Below w.heap.size w (w.alloc (.cells (gramC g) 27))) := Lib.hid ⟨Blk.new w 27 _, (Below.refl _ _).alloc (Nat.le_refl _) _⟩
  have HSt := fun W => Lib.hid (rsort_any g g.start W)
  have HSo := fun n W => Lib.hid (rsort_any g n W)
  have HPr := Lib.hid (fun x W (hW : Below w.heap.size w W) (hx : x ∈ g.prods) (hi : ProdIn W x) => rprod_any g x W hi (Nat.le_trans (hf.fit.right x hx) (by unfold maxLen; omega)))
  have HFo := Lib.hid (fun f W (hW : Below w.heap.size w W) (hx : f ∈ g.forbid) => rforbid_any g f W (hg.below hW) hf.fit.prods hf.fit.right (hf.forb f hx))
  obtain ⟨r3, hr3⟩ : ∃ r, r = numB g.start g.sorts.length := ⟨_, rfl⟩
  have HR3 : Hid (numB g.start g.sorts.length = r3) := Lib.hid hr3.symm
  simp only [← hr3] at HSt
  obtain ⟨n1, hn1⟩ : ∃ n, n = g.sorts.length := ⟨_, rfl⟩
  obtain ⟨n2, hn2⟩ : ∃ n, n = g.prods.length := ⟨_, rfl⟩
  obtain ⟨n3, hn3⟩ : ∃ n, n = g.forbid.length := ⟨_, rfl⟩
  obtain ⟨n4, hn4⟩ : ∃ n, n = g.follow.length := ⟨_, rfl⟩
  have N1 := Lib.hid hn1
  have N2 := Lib.hid hn2
  have N3 := Lib.hid hn3
  have N4 := Lib.hid hn4
  unfold gramV gramC prodV prodC forV forC at *
  rw [← hn1] at m1
  rw [← hn2] at m2
  rw [← hn3] at m3
  rw [← hn4] at m4
  simp only [← hn1, ← hn2, ← hn3, ← hn4] at HSt HSo HPr HFo K0 ⊢
  have HBf := Lib.hid K0.out.2
  clear hg hf hq hr3 hn1 hn2 hn3 hn4
  by_cases h0 : n1 < 1
  · have HE := Lib.hid (HQ.out.f0 (by rw [← N1.out]; exact h0))
    have d0 : decide ((n1 : Int) < 1) = true := by simp; omega
    clear HQ HSt HSo HPr HFo h0
    go_enter Try.func12, Try.ntmps12
    go_wp2
    go_ret
    exact ⟨by rw [HE.out]; rfl, HBf.out⟩
  · have d0 : decide ((n1 : Int) < 1) = false := by simp; omega
    by_cases h1 : 1000 < n1
    · have HE := Lib.hid (HQ.out.f1 (by rw [← N1.out]; exact h1))
      have d1 : decide ((1000 : Int) < (n1 : Int)) = true := by simp; omega
      clear HQ HSt HSo HPr HFo h0 h1
      go_enter Try.func12, Try.ntmps12
      go_wp2
      go_ret
      exact ⟨by rw [HE.out]; rfl, HBf.out⟩
    · have d1 : decide ((1000 : Int) < (n1 : Int)) = false := by simp; omega
      by_cases h2 : 1000 < n2
      · have HE := Lib.hid (HQ.out.f2 (by rw [← N2.out]; exact h2))
        have d2 : decide ((1000 : Int) < (n2 : Int)) = true := by simp; omega
        clear HQ HSt HSo HPr HFo h0 h1 h2
        go_enter Try.func12, Try.ntmps12
        go_wp2
        go_ret
        exact ⟨by rw [HE.out]; rfl, HBf.out⟩
      · have d2 : decide ((1000 : Int) < (n2 : Int)) = false := by simp; omega
        cases r3 with
        | false =>
          have HE := Lib.hid (HQ.out.f3 HR3.out)
          clear HQ HSo HPr HFo h0 h1 h2
          go_enter Try.func12, Try.ntmps12
          go_wp2_with fail
          with_reducible refine (HSt _).out.mono ?_
          rintro e w3 ⟨rfl, hB3⟩
          have HB3 := Lib.hid (HBf.out.trans (hB3.mono HBf.out.size))
          clear hB3
          go_wp2
          go_ret
          exact ⟨by rw [HE.out]; rfl, HB3.out⟩
        | true =>
          have H0 : Hid (1 ≤ g.sorts.length ∧ g.sorts.length ≤ 1000 ∧ g.prods.length ≤ 1000) := Lib.hid (by rw [← N1.out, ← N2.out]; omega)
          clear h0 h1 h2 HBf
          go_enter Try.func12, Try.ntmps12
          go_wp2_with fail
          with_reducible refine (HSt _).out.mono ?_
          rintro e w3 ⟨rfl, hB3⟩
          have K : Hid (Blk w3 w.heap.size 27 #[.slice g.sa n1 g.sc, .slice g.pa n2 g.pc, .int .i64 g.start, .slice g.fa n3 g.fc, .slice g.wa n4 g.wc] ∧ Below w.heap.size w w3) := Lib.hid ⟨K0.out.1.below hB3 K0.out.1.lt, K0.out.2.trans (hB3.mono K0.out.2.size)⟩
          clear hB3 K0 HSt
          obtain ⟨c0, c1, c2, c3, c4⟩ := cells5' K.out.1
          have l0 := K.out.1.lt
          go_wp2
          go_loopw [3] (fun vi wr => ∃ k : Nat, vi = .int .i64 k ∧ k ≤ n1 ∧ Hid (∀ (i : Nat) (x : ByteArray), i < k → g.sorts[i]? = some x → nameB x = true) ∧ Hid (∀ (i j : Nat) (x y : ByteArray), j < i → i < k → g.sorts[j]? = some x → g.sorts[i]? = some y → strEq x y = false) ∧ Hid (Blk wr w.heap.size 27 #[.slice g.sa n1 g.sc, .slice g.pa n2 g.pc, .int .i64 g.start, .slice g.fa n3 g.fc, .slice g.wa n4 g.wc] ∧ Below w.heap.size w wr)) (fun vi _ => n1 - (intOf vi).toNat)
          case atStart => exact ⟨0, rfl, Nat.zero_le _, Lib.hid (fun j s hj => by omega), Lib.hid (fun i k x y hk hi => by omega), K⟩
          case round =>
            clear K c0 c1 c2 c3 c4 l0
            obtain ⟨k, rfl, hk, hS, hE, K⟩ := hrel
            obtain ⟨c0, c1, c2, c3, c4⟩ := cells5' K.out.1
            have l0 := K.out.1.lt
            by_cases hlt : k < n1
            · obtain ⟨x, hx⟩ : ∃ x, g.sorts[k]? = some x := ⟨_, List.getElem?_eq_getElem (by rw [← N1.out]; exact hlt)⟩
              obtain ⟨b1, o1, e1, hb1, hc1, hi1⟩ := HG.out.sorts k x hx
              have hb1' := Nat.lt_of_lt_of_le hb1 K.out.2.size
              have z1 : (k : Int) < (n1 : Int) := by omega
              have z0 : (0 : Int) ≤ (k : Int) := by omega
              have x1 := Str_at (hc1.below K.out.2 hb1)
              simp only [Nat.mul_one] at x1
              have HXB : Hid (nameB x = false → q = 160) := Lib.hid (HQ.out.e1 k x hx)
              cases he : x.toList.isEmpty with
              | true =>
                have z2 : x.toList = [] := by simpa using he
                have HE := Lib.hid (HXB.out (by rw [empty_size] at he; have := of_decide_eq_true he; unfold nameB; rw [this]; rfl))
                rw [e1] at c0
                clear hx hc1 hS hE HXB e1
                go_wp2
                go_ret
                exact ⟨by rw [HE.out]; rfl, K.out.2⟩
              | false =>
                have z2 : ¬ x.toList = [] := by simpa using he
                have z3 : 1 ≤ x.size := by rw [empty_size] at he; have := of_decide_eq_false he; omega
                by_cases hl : 1000 < x.size
                · have z4 : decide ((1000 : Int) < (x.size : Int)) = true := by simp; omega
                  have HE := Lib.hid (HXB.out (by unfold nameB; rw [decide_eq_false (by omega : ¬ x.size ≤ 1000), Bool.and_false]))
                  rw [e1] at c0
                  clear hx hc1 hS hE HXB e1 hl z3
                  go_wp2
                  go_ret
                  exact ⟨by rw [HE.out]; rfl, K.out.2⟩
                · have z4 : decide ((1000 : Int) < (x.size : Int)) = false := by simp; omega
                  have HX : Hid (nameB x = true) := Lib.hid (by unfold nameB; rw [decide_eq_true z3, decide_eq_true (by omega : x.size ≤ 1000)]; rfl)
                  have HA : Hid (∀ (i : Nat) (y : ByteArray), i < k + 1 → g.sorts[i]? = some y → nameB y = true) := Lib.hid (fun i y hi hy => by
                    by_cases e : i = k
                    · subst e; rw [hx] at hy; cases hy; exact HX.out
                    · exact hS.out i y (by omega) hy)
                  clear hS HXB HX hl z3
                  have C0 := Lib.hid c0
                  have E10 := Lib.hid e1
                  rw [e1] at c0
                  have HX1 := Lib.hid hx
                  have E1 := Lib.hid e1
                  have HC1 := Lib.hid hc1
                  clear hx e1 hc1 hi1
                  go_wp2
                  obtain ⟨wo, rfl⟩ : ∃ wo : World, wo = wr := ⟨_, rfl⟩
                  go_loopw [4] (fun vi wr => ∃ m : Nat, vi = .int .i64 m ∧ m ≤ k ∧ Hid (∀ (j : Nat) (y : ByteArray), j < m → g.sorts[j]? = some y → strEq y x = false) ∧ Hid (Blk wr w.heap.size 27 #[.slice g.sa n1 g.sc, .slice g.pa n2 g.pc, .int .i64 g.start, .slice g.fa n3 g.fc, .slice g.wa n4 g.wc] ∧ Below w.heap.size w wr)) (fun vi _ => k - (intOf vi).toNat)
                  case atStart => exact ⟨0, rfl, Nat.zero_le _, Lib.hid (fun j s hj => by omega), K⟩
                  case round =>
                    clear K c0 c1 c2 c3 c4 l0
                    obtain ⟨m, rfl, hm, hM, K⟩ := hrel
                    obtain ⟨c0, c1, c2, c3, c4⟩ := cells5' K.out.1
                    have l0 := K.out.1.lt
                    by_cases hml : m < k
                    · obtain ⟨y, hy⟩ : ∃ y, g.sorts[m]? = some y := ⟨_, List.getElem?_eq_getElem (by have := (List.getElem?_eq_some_iff.1 HX1.out).1; omega)⟩
                      obtain ⟨b2, o2, e2, hb2, hc2, _⟩ := HG.out.sorts m y hy
                      obtain rfl : b1 = b2 := by rw [E1.out] at e2; simpa using congrArg (fun a => a.map (·.block)) e2
                      obtain rfl : o1 = o2 := by rw [E1.out] at e2; simpa using congrArg (fun a => a.map (·.off)) e2
                      have zz1 : (m : Int) < (k : Int) := by omega
                      have zz2 : (m : Int) < (n1 : Int) := by omega
                      have zz0 : (0 : Int) ≤ (m : Int) := by omega
                      have hb2' := Nat.lt_of_lt_of_le hb1 K.out.2.size
                      have x1 := Str_at (HC1.out.below K.out.2 hb1)
                      have x2 := Str_at (hc2.below K.out.2 hb1)
                      simp only [Nat.mul_one] at x1 x2
                      have HXB : Hid (strEq y x = true → q = 160) := Lib.hid (HQ.out.e2 k m y x hml hy HX1.out)
                      have HXG : Hid (strEq y x = false → ∀ (j : Nat) (y : ByteArray), j < m + 1 → g.sorts[j]? = some y → strEq y x = false) := Lib.hid (fun h j y' hj hy' => by
                        by_cases e : j = m
                        · subst e; rw [hy] at hy'; cases hy'; exact h
                        · exact hM.out j y' (by omega) hy')
                      rw [E1.out] at c0
                      clear hy hc2 hM e2
                      by_cases he : y.data.toList = x.data.toList
                      · have g1 : (y.toList == x.toList) = true := by rw [toList_data, toList_data, he]; simp
                        have HE := Lib.hid (HXB.out (by unfold strEq; simpa using he))
                        clear he
                        clear HXB HXG
                        go_wp2
                        go_region
                        go_wp2
                        go_ret
                        exact ⟨by rw [HE.out]; rfl, K.out.2.drew⟩
                      · have g1 : (y.toList == x.toList) = false := by rw [toList_data, toList_data]; simpa using he
                        have HZ2 := Lib.hid (HXG.out (by unfold strEq; simpa using he))
                        clear he
                        clear HXB HXG
                        go_wp2
                        go_region
                        go_wp2
                        go_roundw
                        case rel => exact ⟨m + 1, by go_num, by omega, HZ2, Lib.hid ⟨K.out.1.drew, K.out.2.drew⟩⟩
                        case measure => simp [intOf]; omega
                    · have HEn : Hid (∀ (i j : Nat) (x y : ByteArray), j < i → i < k + 1 → g.sorts[j]? = some x → g.sorts[i]? = some y → strEq x y = false) := Lib.hid (fun i j x' y' hj hi hx' hy' => by
                        by_cases e : i = k
                        · subst e; rw [HX1.out] at hy'; cases hy'; exact hM.out j x' (by omega) hx'
                        · exact hE.out i j x' y' hj (by omega) hx' hy')
                      clear hM hE
                      obtain rfl : k = m := by omega
                      go_wp2
                      go_roundw
                      case rel => exact ⟨k + 1, by go_num, by omega, HA, HEn, K⟩
                      case measure => simp [intOf]; omega
            · obtain rfl : n1 = k := by omega
              have S1 := Lib.hid (fun (i : Nat) (x : ByteArray) hx => hS.out i x (by have := (List.getElem?_eq_some_iff.1 hx).1; have := N1.out; omega) hx)
              have S2 := Lib.hid (fun (i j : Nat) (x y : ByteArray) hj hx hy => hE.out i j x y hj (by have := (List.getElem?_eq_some_iff.1 hy).1; have := N1.out; omega) hx hy)
              clear hS hE hk hlt
              go_wp2
              obtain ⟨wo1, rfl⟩ : ∃ wo : World, wo = wr := ⟨_, rfl⟩
              go_loopw [5] (fun vi wr => ∃ k : Nat, vi = .int .i64 k ∧ k ≤ n2 ∧ Hid (∀ (i : Nat) (x : ProdM), i < k → g.prods[i]? = some x → prodB g.sorts.length x = true) ∧ Hid (Blk wr w.heap.size 27 #[.slice g.sa n1 g.sc, .slice g.pa n2 g.pc, .int .i64 g.start, .slice g.fa n3 g.fc, .slice g.wa n4 g.wc] ∧ Below w.heap.size w wr)) (fun vi _ => n2 - (intOf vi).toNat)
              case atStart => exact ⟨0, rfl, Nat.zero_le _, Lib.hid (fun j s hj => by omega), K⟩
              case round =>
                clear K c0 c1 c2 c3 c4 l0
                obtain ⟨k, rfl, hk, hS, K⟩ := hrel
                obtain ⟨c0, c1, c2, c3, c4⟩ := cells5' K.out.1
                have l0 := K.out.1.lt
                by_cases hlt : k < n2
                · obtain ⟨x, hx⟩ : ∃ x, g.prods[k]? = some x := ⟨_, List.getElem?_eq_getElem (by rw [← N2.out]; exact hlt)⟩
                  obtain ⟨b1, o1, e1, hb1, hc1, hi1⟩ := HG.out.prods k x hx
                  have hb1' := Nat.lt_of_lt_of_le hb1 K.out.2.size
                  have z1 : (k : Int) < (n2 : Int) := by omega
                  have z0 : (0 : Int) ≤ (k : Int) := by omega
                  obtain ⟨x10, x11, x12, x13, x14, x15, x16⟩ := Prod_at (hc1.below K.out.2 hb1)
                  have HXB : Hid (prodB g.sorts.length x = false → q = 160) := Lib.hid (HQ.out.e3 k x hx)
                  have HZ : Hid (prodB g.sorts.length x = true → ∀ (i : Nat) (y : ProdM), i < k + 1 → g.prods[i]? = some y → prodB g.sorts.length y = true) := Lib.hid (fun h i y hi hy => by
                    by_cases e : i = k
                    · subst e; rw [hx] at hy; cases hy; exact h
                    · exact hS.out i y (by omega) hy)
                  have HC := Lib.hid (HPr.out x wr.drew K.out.2.drew (List.mem_of_getElem? hx) (hi1.below K.out.2.drew))
                  simp only [← N1.out] at HXB HC
                  obtain ⟨r, hr⟩ : ∃ r, r = prodB n1 x := ⟨_, rfl⟩
                  rw [← hr] at HXB HC
                  have HRR := Lib.hid hr
                  rw [e1] at c1 HC
                  clear hx hc1 hi1 e1 hS hr
                  go_wp2
                  refine wp_region_still_tail 6 (by kernel_rfl) (by kernel_rfl) ?_
                  show wpStill _ _ wr.drew _ _ _
                  obtain ⟨V, hV⟩ : ∃ W, W = wr.drew := ⟨_, rfl⟩
                  have kW : ∀ a, V.cell? a = wr.cell? a := fun a => by rw [hV]; rfl
                  have hs : V.heap.size = wr.heap.size := by rw [hV]; rfl
                  have KV : Hid (Blk V w.heap.size 27 #[.slice g.sa n1 g.sc, .slice g.pa n2 g.pc, .int .i64 g.start, .slice g.fa n3 g.fc, .slice g.wa n4 g.wc] ∧ Below w.heap.size w V) := Lib.hid (by rw [hV]; exact ⟨K.out.1.drew, K.out.2.drew⟩)
                  rw [← hV]
                  simp only [← kW] at c0 c1 c2 c3 c4 x10 x11 x12 x13 x14 x15 x16
                  rw [← hs] at l0 hb1'
                  have HV := Lib.hid hV
                  have HCW : Hid (Calls Try.prog 32 #[.agg #[.slice g.sa n1 g.sc, .slice (some ⟨b1, o1, none⟩) n2 g.pc, .int .i64 g.start, .slice g.fa n3 g.fc, .slice g.wa n4 g.wc], .agg #[.int .i64 x.left, .slice x.ra x.right.length x.rc, .string x.cons, .int .i64 x.role, .bool x.prefer, .bool x.avoid, .int .i64 x.frm]] V fun e w' => e = .returned (.bool r) ∧ Below V.heap.size V w') := Lib.hid (by rw [hV]; exact HC.out)
                  clear kW hV hs K
                  simp only [List.take_succ_cons, List.take_zero, List.drop_succ_cons, List.drop_zero]
                  repeat still_step
                  refine wpStill_nil ?_
                  show wpList _ _ _ _ _ wr.drew
                  rw [← HV.out]
                  clear HV
                  go_wp2_with fail
                  with_reducible refine HCW.out.mono ?_
                  rintro e w3 ⟨rfl, hB3⟩
                  have K3 : Hid (Blk w3 w.heap.size 27 #[.slice g.sa n1 g.sc, .slice g.pa n2 g.pc, .int .i64 g.start, .slice g.fa n3 g.fc, .slice g.wa n4 g.wc] ∧ Below w.heap.size w w3) := Lib.hid ⟨KV.out.1.below hB3 KV.out.1.lt, KV.out.2.trans (hB3.mono KV.out.2.size)⟩
                  clear hB3 KV HCW c0 c1 c2 c3 c4 l0 x10 x11 x12 x13 x14 x15 x16
                  cases r with
                  | false =>
                    have HE := Lib.hid (HXB.out rfl)
                    clear HXB HZ
                    go_wp2
                    go_ret
                    exact ⟨by rw [HE.out]; rfl, K3.out.2⟩
                  | true =>
                    have HZ2 := Lib.hid (HZ.out (by rw [← N1.out]; exact HRR.out.symm))
                    clear HXB HZ
                    go_wp2
                    go_roundw
                    case rel => exact ⟨k + 1, by go_num, by omega, HZ2, K3⟩
                    case measure => simp [intOf]; omega
                · obtain rfl : n2 = k := by omega
                  have S3 := Lib.hid (fun (i : Nat) (x : ProdM) hx => hS.out i x (by have := (List.getElem?_eq_some_iff.1 hx).1; have := N2.out; omega) hx)
                  clear hS hk hlt
                  go_wp2
                  obtain ⟨wo2, rfl⟩ : ∃ wo : World, wo = wr := ⟨_, rfl⟩
                  go_loopw [6] (fun vi wr => ∃ k : Nat, vi = .int .i64 k ∧ k ≤ n3 ∧ Hid (∀ (i : Nat) (x : ForM), i < k → g.forbid[i]? = some x → forbidB g x = true) ∧ Hid (∀ (i j : Nat) (x y : ForM), j < i → i < k → g.forbid[j]? = some x → g.forbid[i]? = some y → forEq x y = false) ∧ Hid (Blk wr w.heap.size 27 #[.slice g.sa n1 g.sc, .slice g.pa n2 g.pc, .int .i64 g.start, .slice g.fa n3 g.fc, .slice g.wa n4 g.wc] ∧ Below w.heap.size w wr)) (fun vi _ => n3 - (intOf vi).toNat)
                  case atStart => exact ⟨0, rfl, Nat.zero_le _, Lib.hid (fun j s hj => by omega), Lib.hid (fun i k x y hk hi => by omega), K⟩
                  case round =>
                    clear K c0 c1 c2 c3 c4 l0
                    obtain ⟨k, rfl, hk, hS, hE, K⟩ := hrel
                    obtain ⟨c0, c1, c2, c3, c4⟩ := cells5' K.out.1
                    have l0 := K.out.1.lt
                    by_cases hlt : k < n3
                    · obtain ⟨x, hx⟩ : ∃ x, g.forbid[k]? = some x := ⟨_, List.getElem?_eq_getElem (by rw [← N3.out]; exact hlt)⟩
                      obtain ⟨b1, o1, e1, hb1, hc1, hi1⟩ := HG.out.forbid k x hx
                      have hb1' := Nat.lt_of_lt_of_le hb1 K.out.2.size
                      have z1 : (k : Int) < (n3 : Int) := by omega
                      have z0 : (0 : Int) ≤ (k : Int) := by omega
                      obtain ⟨x10, x11, x12⟩ := For_at (hc1.below K.out.2 hb1)
                      have HXB : Hid (forbidB g x = false → q = 160) := Lib.hid (HQ.out.e4 k x hx)
                      have HC := Lib.hid (HFo.out x wr.drew K.out.2.drew (List.mem_of_getElem? hx))
                      obtain ⟨r, hr⟩ : ∃ r, r = forbidB g x := ⟨_, rfl⟩
                      rw [← hr] at HXB HC
                      have HRR := Lib.hid hr
                      have c3' := c3
                      rw [e1] at c3 HC
                      have E1h := Lib.hid e1
                      clear hr e1
                      go_wp2
                      refine wp_region_still_tail 6 (by kernel_rfl) (by kernel_rfl) ?_
                      show wpStill _ _ wr.drew _ _ _
                      obtain ⟨V, hV⟩ : ∃ W, W = wr.drew := ⟨_, rfl⟩
                      have kW : ∀ a, V.cell? a = wr.cell? a := fun a => by rw [hV]; rfl
                      have hs : V.heap.size = wr.heap.size := by rw [hV]; rfl
                      have KV : Hid (Blk V w.heap.size 27 #[.slice g.sa n1 g.sc, .slice g.pa n2 g.pc, .int .i64 g.start, .slice g.fa n3 g.fc, .slice g.wa n4 g.wc] ∧ Below w.heap.size w V) := Lib.hid (by rw [hV]; exact ⟨K.out.1.drew, K.out.2.drew⟩)
                      rw [← hV]
                      simp only [← kW] at c0 c1 c2 c3 c4 x10 x11 x12
                      rw [← hs] at l0 hb1'
                      have HV := Lib.hid hV
                      have HCW : Hid (Calls Try.prog 33 #[.agg #[.slice g.sa n1 g.sc, .slice g.pa n2 g.pc, .int .i64 g.start, .slice (some ⟨b1, o1, none⟩) n3 g.fc, .slice g.wa n4 g.wc], .agg #[.int .i64 x.parent, .int .i64 x.at_, .int .i64 x.child]] V fun e w' => e = .returned (.bool r) ∧ Below V.heap.size V w') := Lib.hid (by rw [hV]; exact HC.out)
                      clear c3'
                      clear kW hV hs K
                      simp only [List.take_succ_cons, List.take_zero, List.drop_succ_cons, List.drop_zero]
                      repeat still_step
                      refine wpStill_nil ?_
                      show wpList _ _ _ _ _ wr.drew
                      rw [← HV.out]
                      clear HV
                      go_wp2_with fail
                      with_reducible refine HCW.out.mono ?_
                      rintro e w3 ⟨rfl, hB3⟩
                      have K3 : Hid (Blk w3 w.heap.size 27 #[.slice g.sa n1 g.sc, .slice g.pa n2 g.pc, .int .i64 g.start, .slice g.fa n3 g.fc, .slice g.wa n4 g.wc] ∧ Below w.heap.size w w3) := Lib.hid ⟨KV.out.1.below hB3 KV.out.1.lt, KV.out.2.trans (hB3.mono KV.out.2.size)⟩
                      clear hB3 KV HCW c0 c1 c2 c3 c4 l0 x10 x11 x12
                      cases r with
                      | false =>
                        have HE := Lib.hid (HXB.out rfl)
                        clear HXB hx hc1 hi1 hS hE
                        go_wp2
                        go_ret
                        exact ⟨by rw [HE.out]; rfl, K3.out.2⟩
                      | true =>
                        have HX : Hid (forbidB g x = true) := Lib.hid HRR.out.symm
                        have HA : Hid (∀ (i : Nat) (y : ForM), i < k + 1 → g.forbid[i]? = some y → forbidB g y = true) := Lib.hid (fun i y hi hy => by
                          by_cases e : i = k
                          · subst e; rw [hx] at hy; cases hy; exact HX.out
                          · exact hS.out i y (by omega) hy)
                        clear hS HXB HX HRR HC
                        obtain ⟨c0, c1, c2, c3, c4⟩ := cells5' K3.out.1
                        have l0 := K3.out.1.lt
                        obtain ⟨wz, rfl⟩ : ∃ z : World, z = wr := ⟨_, rfl⟩
                        obtain ⟨wr, rfl⟩ : ∃ z : World, z = w3 := ⟨_, rfl⟩
                        have e1 := E1h.out
                        have HX1 := Lib.hid hx
                        have E1 := Lib.hid e1
                        have HC1 := Lib.hid hc1
                        clear hx e1 hc1 hi1
                        go_wp2
                        obtain ⟨wo, rfl⟩ : ∃ wo : World, wo = wr := ⟨_, rfl⟩
                        go_loopw [7] (fun vi wr => ∃ m : Nat, vi = .int .i64 m ∧ m ≤ k ∧ Hid (∀ (j : Nat) (y : ForM), j < m → g.forbid[j]? = some y → forEq y x = false) ∧ Hid (Blk wr w.heap.size 27 #[.slice g.sa n1 g.sc, .slice g.pa n2 g.pc, .int .i64 g.start, .slice g.fa n3 g.fc, .slice g.wa n4 g.wc] ∧ Below w.heap.size w wr)) (fun vi _ => k - (intOf vi).toNat)
                        case atStart => exact ⟨0, rfl, Nat.zero_le _, Lib.hid (fun j s hj => by omega), K3⟩
                        case round =>
                          clear K3 c0 c1 c2 c3 c4 l0
                          obtain ⟨m, rfl, hm, hM, K⟩ := hrel
                          obtain ⟨c0, c1, c2, c3, c4⟩ := cells5' K.out.1
                          have l0 := K.out.1.lt
                          by_cases hml : m < k
                          · obtain ⟨y, hy⟩ : ∃ y, g.forbid[m]? = some y := ⟨_, List.getElem?_eq_getElem (by have := (List.getElem?_eq_some_iff.1 HX1.out).1; omega)⟩
                            obtain ⟨b2, o2, e2, hb2, hc2, _⟩ := HG.out.forbid m y hy
                            obtain rfl : b1 = b2 := by rw [E1.out] at e2; simpa using congrArg (fun a => a.map (·.block)) e2
                            obtain rfl : o1 = o2 := by rw [E1.out] at e2; simpa using congrArg (fun a => a.map (·.off)) e2
                            have zz1 : (m : Int) < (k : Int) := by omega
                            have zz2 : (m : Int) < (n3 : Int) := by omega
                            have zz0 : (0 : Int) ≤ (m : Int) := by omega
                            have hb2' := Nat.lt_of_lt_of_le hb1 K.out.2.size
                            obtain ⟨x10, x11, x12⟩ := For_at (HC1.out.below K.out.2 hb1)
                            obtain ⟨x20, x21, x22⟩ := For_at (hc2.below K.out.2 hb1)
                            have HXB : Hid (forEq y x = true → q = 160) := Lib.hid (HQ.out.e5 k m y x hml hy HX1.out)
                            have HXG : Hid (forEq y x = false → ∀ (j : Nat) (y : ForM), j < m + 1 → g.forbid[j]? = some y → forEq y x = false) := Lib.hid (fun h j y' hj hy' => by
                              by_cases e : j = m
                              · subst e; rw [hy] at hy'; cases hy'; exact h
                              · exact hM.out j y' (by omega) hy')
                            rw [E1.out] at c3
                            clear hy hc2 hM e2
                            cases he : forEq y x with
                            | true =>
                              have hee : (y.parent == x.parent && (y.at_ == x.at_ && y.child == x.child)) = true := he
                              have g1 := fun w' => eq_fors 9996 y x w'
                              simp only [hee] at g1
                              clear hee
                              unfold forV forC at g1
                              have HE := Lib.hid (HXB.out he)
                              clear he
                              clear HXB HXG
                              go_wp2
                              go_region
                              go_wp2
                              go_ret
                              exact ⟨by rw [HE.out]; rfl, K.out.2.drew⟩
                            | false =>
                              have hee : (y.parent == x.parent && (y.at_ == x.at_ && y.child == x.child)) = false := he
                              have g1 := fun w' => eq_fors 9996 y x w'
                              simp only [hee] at g1
                              clear hee
                              unfold forV forC at g1
                              have HZ2 := Lib.hid (HXG.out he)
                              clear he
                              clear HXB HXG
                              go_wp2
                              go_region
                              go_wp2
                              go_roundw
                              case rel => exact ⟨m + 1, by go_num, by omega, HZ2, Lib.hid ⟨K.out.1.drew, K.out.2.drew⟩⟩
                              case measure => simp [intOf]; omega
                          · have HEn : Hid (∀ (i j : Nat) (x y : ForM), j < i → i < k + 1 → g.forbid[j]? = some x → g.forbid[i]? = some y → forEq x y = false) := Lib.hid (fun i j x' y' hj hi hx' hy' => by
                              by_cases e : i = k
                              · subst e; rw [HX1.out] at hy'; cases hy'; exact hM.out j x' (by omega) hx'
                              · exact hE.out i j x' y' hj (by omega) hx' hy')
                            clear hM hE
                            obtain rfl : k = m := by omega
                            go_wp2
                            go_roundw
                            case rel => exact ⟨k + 1, by go_num, by omega, HA, HEn, K⟩
                            case measure => simp [intOf]; omega
                    · obtain rfl : n3 = k := by omega
                      have S4 := Lib.hid (fun (i : Nat) (x : ForM) hx => hS.out i x (by have := (List.getElem?_eq_some_iff.1 hx).1; have := N3.out; omega) hx)
                      have S5 := Lib.hid (fun (i j : Nat) (x y : ForM) hj hx hy => hE.out i j x y hj (by have := (List.getElem?_eq_some_iff.1 hy).1; have := N3.out; omega) hx hy)
                      clear hS hE hk hlt
                      go_wp2
                      obtain ⟨wo3, rfl⟩ : ∃ wo : World, wo = wr := ⟨_, rfl⟩
                      go_loopw [8] (fun vi wr => ∃ k : Nat, vi = .int .i64 k ∧ k ≤ n4 ∧ Hid (∀ (i : Nat) (x : FolM), i < k → g.follow[i]? = some x → folB g.sorts.length x = true) ∧ Hid (∀ (i j : Nat) (x y : FolM), j < i → i < k → g.follow[j]? = some x → g.follow[i]? = some y → (x.sort == y.sort) = false) ∧ Hid (Blk wr w.heap.size 27 #[.slice g.sa n1 g.sc, .slice g.pa n2 g.pc, .int .i64 g.start, .slice g.fa n3 g.fc, .slice g.wa n4 g.wc] ∧ Below w.heap.size w wr)) (fun vi _ => n4 - (intOf vi).toNat)
                      case atStart => exact ⟨0, rfl, Nat.zero_le _, Lib.hid (fun j s hj => by omega), Lib.hid (fun i k x y hk hi => by omega), K⟩
                      case round =>
                        clear K c0 c1 c2 c3 c4 l0
                        obtain ⟨k, rfl, hk, hS, hE, K⟩ := hrel
                        obtain ⟨c0, c1, c2, c3, c4⟩ := cells5' K.out.1
                        have l0 := K.out.1.lt
                        by_cases hlt : k < n4
                        · obtain ⟨x, hx⟩ : ∃ x, g.follow[k]? = some x := ⟨_, List.getElem?_eq_getElem (by rw [← N4.out]; exact hlt)⟩
                          obtain ⟨b1, o1, e1, hb1, hc1, hi1⟩ := HG.out.follow k x hx
                          have hb1' := Nat.lt_of_lt_of_le hb1 K.out.2.size
                          have z1 : (k : Int) < (n4 : Int) := by omega
                          have z0 : (0 : Int) ≤ (k : Int) := by omega
                          obtain ⟨x10, x11, x12, x13, x14⟩ := Fol_at (hc1.below K.out.2 hb1)
                          have HXB : Hid (folB g.sorts.length x = false → q = 160) := Lib.hid (HQ.out.e6 k x hx)
                          have E1h := Lib.hid e1
                          have HK : Hid (∀ W, Below wr.heap.size wr W → (W.cell? ⟨w.heap.size, 0, none⟩ = some (.slice g.sa n1 g.sc) ∧ W.cell? ⟨w.heap.size, 1, none⟩ = some (.slice g.pa n2 g.pc) ∧ W.cell? ⟨w.heap.size, 2, none⟩ = some (.int .i64 g.start) ∧ W.cell? ⟨w.heap.size, 3, none⟩ = some (.slice g.fa n3 g.fc) ∧ W.cell? ⟨w.heap.size, 4, none⟩ = some (.slice g.wa n4 g.wc)) ∧ W.cell? ⟨w.heap.size, 4, none⟩ = some (.slice (some ⟨b1, o1, none⟩) n4 g.wc) ∧ W.cell? ⟨b1, o1 + k * 5, none⟩ = some (.int .i64 x.sort) ∧ (W.cell? ⟨b1, o1 + k * 5 + 1, none⟩ = some (.int .u64 (wdI x.not 0)) ∧ W.cell? ⟨b1, o1 + k * 5 + 1 + 1, none⟩ = some (.int .u64 (wdI x.not 1)) ∧ W.cell? ⟨b1, o1 + k * 5 + 1 + 2, none⟩ = some (.int .u64 (wdI x.not 2)) ∧ W.cell? ⟨b1, o1 + k * 5 + 1 + 3, none⟩ = some (.int .u64 (wdI x.not 3)))) := Lib.hid (fun W hW => by
                            have k1 := K.out.1.below hW K.out.1.lt
                            have k2 := Fol_at ((hc1.below K.out.2 hb1).below hW hb1')
                            exact ⟨cells5' k1, by rw [← E1h.out]; exact (cells5' k1).2.2.2.2, k2⟩)
                          obtain ⟨r, hr⟩ : ∃ r, r = numB x.sort n1 := ⟨_, rfl⟩
                          obtain ⟨z, hz⟩ : ∃ z, z = (x.not == 0#256) := ⟨_, rfl⟩
                          have HRR : Hid (numB x.sort g.sorts.length = r) := Lib.hid (by rw [hr, N1.out])
                          have HZZ : Hid ((x.not == 0#256) = z) := Lib.hid hz.symm
                          have HC1 : ∀ W, Hid (Calls Try.prog 31 #[.agg #[.slice g.sa n1 g.sc, .slice g.pa n2 g.pc, .int .i64 g.start, .slice g.fa n3 g.fc, .slice g.wa n4 g.wc], .int .i64 x.sort] W fun e w' => e = .returned (.bool r) ∧ Below W.heap.size W w') := fun W => Lib.hid (by rw [hr]; exact (HSo x.sort W).out)
                          have HC2 : ∀ W, Hid (Calls Try.prog 34 #[.agg #[.int .u64 (wdI x.not 0), .int .u64 (wdI x.not 1), .int .u64 (wdI x.not 2), .int .u64 (wdI x.not 3)]] W fun e w' => e = .returned (.bool z) ∧ Below W.heap.size W w') := fun W => Lib.hid (by rw [hz]; exact empty_any x.not W)
                          have hkn : k < n4 := hlt
                          have hN : ∀ W : World, Below W.heap.size W W := fun W => Below.refl _ W
                          clear e1 hr hz
                          go_wp2
                          cases r with
                          | false =>
                            refine wp_region_vals0 (N := fun W W' => Below W.heap.size W W') (S := fun W => Below wr.heap.size wr W)
                              [.agg #[.slice g.sa n1 g.sc, .slice g.pa n2 g.pc, .int .i64 g.start, .slice g.fa n3 g.fc, .slice g.wa n4 g.wc], .pointer (some ⟨w.heap.size, 4, none⟩), .slice (some ⟨b1, o1, none⟩) n4 g.wc, .int .i64 (k : Nat), .pointer (some ⟨b1, o1 + k * 5, none⟩), .pointer (some ⟨b1, o1 + k * 5, none⟩), .int .i64 x.sort, .bool false, .bool true, .bool true, undef, undef, undef, undef, undef, undef, undef, .bool true]
                              #[.agg #[.slice g.sa n1 g.sc, .slice g.pa n2 g.pc, .int .i64 g.start, .slice g.fa n3 g.fc, .slice g.wa n4 g.wc], .pointer (some ⟨w.heap.size, 0, none⟩), u2, .int .i64 (n1 : Nat), u4, .int .i64 (n2 : Nat), .int .i64 (n3 : Nat), u7, .int .i64 (k : Nat), u9, .pointer (some ⟨w.heap.size, 0, none⟩), .slice g.sa n1 g.sc, .int .i64 (n1 : Nat), .bool false, .bool false, .pointer (some ⟨w.heap.size, 0, none⟩), .slice g.sa n1 g.sc, .int .i64 (n1 : Nat), .bool false, .bool false, .bool false, .pointer (some ⟨w.heap.size, 1, none⟩), .slice g.pa n2 g.pc, .int .i64 (n2 : Nat), .bool false, .bool false, .bool false, .agg #[.slice g.sa n1 g.sc, .slice g.pa n2 g.pc, .int .i64 g.start, .slice g.fa n3 g.fc, .slice g.wa n4 g.wc], .pointer (some ⟨w.heap.size, 2, none⟩), .int .i64 g.start, .bool true, .bool false, .bool false, .int .i64 (n1 : Nat), .pointer (some ⟨w.heap.size, 0, none⟩), .slice g.sa n1 g.sc, .int .i64 (n1 : Nat), .bool false, u38, u39, u40, u41, u42, u43, u44, u45, u46, u47, u48, u49, u50, u51, u52, u53, u54, u55, u56, u57, u58, u59, u60, u61, u62, u63, u64, u65, u66, u67, u68, u69, u70, .int .i64 (n2 : Nat), .pointer (some ⟨w.heap.size, 1, none⟩), .slice g.pa n2 g.pc, .int .i64 (n2 : Nat), .bool false, u76, u77, u78, u79, u80, u81, u82, u83, u84, u85, .int .i64 (n3 : Nat), .pointer (some ⟨w.heap.size, 3, none⟩), .slice g.fa n3 g.fc, .int .i64 (n3 : Nat), .bool false, u91, u92, u93, u94, u95, u96, u97, u98, u99, u100, u101, u102, u103, u104, u105, u106, u107, u108, u109, u110, u111, u112, u113, u114, u115, u116, .int .i64 (k : Nat), .pointer (some ⟨w.heap.size, 4, none⟩), .slice g.wa n4 g.wc, .int .i64 (n4 : Nat), .bool true, u122, u123, .agg #[.slice g.sa n1 g.sc, .slice g.pa n2 g.pc, .int .i64 g.start, .slice g.fa n3 g.fc, .slice g.wa n4 g.wc], .pointer (some ⟨w.heap.size, 4, none⟩), .slice (some ⟨b1, o1, none⟩) n4 g.wc, .int .i64 (k : Nat), .pointer (some ⟨b1, o1 + k * 5, none⟩), .pointer (some ⟨b1, o1 + k * 5, none⟩), .int .i64 x.sort, .bool false, .bool true, .bool true, undef, undef, undef, undef, undef, undef, undef, .bool true, u142, u143, u144, u145, u146, u147, u148, u149, u150, u151, u152, u153, u154, u155, u156, u157, u158, u159]
                              rfl (by kernel_rfl) (by kernel_rfl) (by kernel_rfl) hN (Below.refl _ wr).drew (fun W W' h hB => h.trans (hB.mono h.size)) ?_ ?_
                            · refine Each.val 124 (.agg #[.slice g.sa n1 g.sc, .slice g.pa n2 g.pc, .int .i64 g.start, .slice g.fa n3 g.fc, .slice g.wa n4 g.wc]) (by kernel_rfl) (by kernel_rfl) (by kernel_rfl) hN (fun W hS _ => ld27r rfl (by kernel_rfl) (HK.out W hS).1) ?_
                              refine Each.val 125 (.pointer (some ⟨w.heap.size, 4, none⟩)) (by kernel_rfl) (by kernel_rfl) (by kernel_rfl) hN (fun W hS _ => fa27_4 rfl (by kernel_rfl)) ?_
                              refine Each.val 126 (.slice (some ⟨b1, o1, none⟩) n4 g.wc) (by kernel_rfl) (by kernel_rfl) (by kernel_rfl) hN (fun W hS _ => ld25 rfl (by kernel_rfl) (((HK.out W hS).2.1))) ?_
                              refine Each.val 127 (.int .i64 (k : Nat)) (by kernel_rfl) (by kernel_rfl) (by kernel_rfl) hN (fun _ _ _ => by kernel_rfl) ?_
                              refine Each.val 128 (.pointer (some ⟨b1, o1 + k * 5, none⟩)) (by kernel_rfl) (by kernel_rfl) (by kernel_rfl) hN (fun W hS _ => ix25 (c := g.wc) rfl (by kernel_rfl) (by kernel_rfl) hkn rfl) ?_
                              refine Each.val 129 (.pointer (some ⟨b1, o1 + k * 5, none⟩)) (by kernel_rfl) (by kernel_rfl) (by kernel_rfl) hN (fun W hS _ => fa80_0 rfl (by kernel_rfl)) ?_
                              refine Each.val 130 (.int .i64 x.sort) (by kernel_rfl) (by kernel_rfl) (by kernel_rfl) hN (fun W hS _ => ld3 rfl (by kernel_rfl) (((HK.out W hS).2.2.1))) ?_
                              refine Each.call 131 (.bool false) 31 #[.agg #[.slice g.sa n1 g.sc, .slice g.pa n2 g.pc, .int .i64 g.start, .slice g.fa n3 g.fc, .slice g.wa n4 g.wc], .int .i64 x.sort] (by kernel_rfl) (by kernel_rfl) (by kernel_rfl) (fun _ _ => by kernel_rfl) (fun W hS => (HC1 W).out) ?_
                              refine Each.val 132 (.bool true) (by kernel_rfl) (by kernel_rfl) (by kernel_rfl) hN (fun _ _ _ => by kernel_rfl) ?_
                              refine Each.val 133 (.bool true) (by kernel_rfl) (by kernel_rfl) (by kernel_rfl) hN (fun _ _ _ => by kernel_rfl) ?_
                              refine Each.off 134 (by kernel_rfl) (by kernel_rfl) (by kernel_rfl) ?_
                              refine Each.off 135 (by kernel_rfl) (by kernel_rfl) (by kernel_rfl) ?_
                              refine Each.off 136 (by kernel_rfl) (by kernel_rfl) (by kernel_rfl) ?_
                              refine Each.off 137 (by kernel_rfl) (by kernel_rfl) (by kernel_rfl) ?_
                              refine Each.off 138 (by kernel_rfl) (by kernel_rfl) (by kernel_rfl) ?_
                              refine Each.off 139 (by kernel_rfl) (by kernel_rfl) (by kernel_rfl) ?_
                              refine Each.off 140 (by kernel_rfl) (by kernel_rfl) (by kernel_rfl) ?_
                              refine Each.val 141 (.bool true) (by kernel_rfl) (by kernel_rfl) (by kernel_rfl) hN (fun _ _ _ => by kernel_rfl) ?_
                              exact trivial
                            · intro w' hS2
                              have K3 : Hid (Blk w' w.heap.size 27 #[.slice g.sa n1 g.sc, .slice g.pa n2 g.pc, .int .i64 g.start, .slice g.fa n3 g.fc, .slice g.wa n4 g.wc] ∧ Below w.heap.size w w') := Lib.hid ⟨K.out.1.below hS2 K.out.1.lt, K.out.2.trans (hS2.mono K.out.2.size)⟩
                              clear hS2 hN HC1 HC2 HK c0 c1 c2 c3 c4 l0 x10 x11 x12 x13 x14 K
                              have HE := Lib.hid (HXB.out (by unfold folB; rw [HRR.out]; rfl))
                              clear hS hE HXB hx hc1 hi1
                              go_wp2
                              go_ret
                              exact ⟨by rw [HE.out]; rfl, K3.out.2⟩
                          | true =>
                            refine wp_region_vals0 (N := fun W W' => Below W.heap.size W W') (S := fun W => Below wr.heap.size wr W)
                              [.agg #[.slice g.sa n1 g.sc, .slice g.pa n2 g.pc, .int .i64 g.start, .slice g.fa n3 g.fc, .slice g.wa n4 g.wc], .pointer (some ⟨w.heap.size, 4, none⟩), .slice (some ⟨b1, o1, none⟩) n4 g.wc, .int .i64 (k : Nat), .pointer (some ⟨b1, o1 + k * 5, none⟩), .pointer (some ⟨b1, o1 + k * 5, none⟩), .int .i64 x.sort, .bool true, .bool false, .bool false, .pointer (some ⟨w.heap.size, 4, none⟩), .slice (some ⟨b1, o1, none⟩) n4 g.wc, .int .i64 (k : Nat), .pointer (some ⟨b1, o1 + k * 5, none⟩), .pointer (some ⟨b1, o1 + k * 5 + 1, none⟩), .agg #[.int .u64 (wdI x.not 0), .int .u64 (wdI x.not 1), .int .u64 (wdI x.not 2), .int .u64 (wdI x.not 3)], .bool z, .bool z]
                              #[.agg #[.slice g.sa n1 g.sc, .slice g.pa n2 g.pc, .int .i64 g.start, .slice g.fa n3 g.fc, .slice g.wa n4 g.wc], .pointer (some ⟨w.heap.size, 0, none⟩), u2, .int .i64 (n1 : Nat), u4, .int .i64 (n2 : Nat), .int .i64 (n3 : Nat), u7, .int .i64 (k : Nat), u9, .pointer (some ⟨w.heap.size, 0, none⟩), .slice g.sa n1 g.sc, .int .i64 (n1 : Nat), .bool false, .bool false, .pointer (some ⟨w.heap.size, 0, none⟩), .slice g.sa n1 g.sc, .int .i64 (n1 : Nat), .bool false, .bool false, .bool false, .pointer (some ⟨w.heap.size, 1, none⟩), .slice g.pa n2 g.pc, .int .i64 (n2 : Nat), .bool false, .bool false, .bool false, .agg #[.slice g.sa n1 g.sc, .slice g.pa n2 g.pc, .int .i64 g.start, .slice g.fa n3 g.fc, .slice g.wa n4 g.wc], .pointer (some ⟨w.heap.size, 2, none⟩), .int .i64 g.start, .bool true, .bool false, .bool false, .int .i64 (n1 : Nat), .pointer (some ⟨w.heap.size, 0, none⟩), .slice g.sa n1 g.sc, .int .i64 (n1 : Nat), .bool false, u38, u39, u40, u41, u42, u43, u44, u45, u46, u47, u48, u49, u50, u51, u52, u53, u54, u55, u56, u57, u58, u59, u60, u61, u62, u63, u64, u65, u66, u67, u68, u69, u70, .int .i64 (n2 : Nat), .pointer (some ⟨w.heap.size, 1, none⟩), .slice g.pa n2 g.pc, .int .i64 (n2 : Nat), .bool false, u76, u77, u78, u79, u80, u81, u82, u83, u84, u85, .int .i64 (n3 : Nat), .pointer (some ⟨w.heap.size, 3, none⟩), .slice g.fa n3 g.fc, .int .i64 (n3 : Nat), .bool false, u91, u92, u93, u94, u95, u96, u97, u98, u99, u100, u101, u102, u103, u104, u105, u106, u107, u108, u109, u110, u111, u112, u113, u114, u115, u116, .int .i64 (k : Nat), .pointer (some ⟨w.heap.size, 4, none⟩), .slice g.wa n4 g.wc, .int .i64 (n4 : Nat), .bool true, u122, u123, .agg #[.slice g.sa n1 g.sc, .slice g.pa n2 g.pc, .int .i64 g.start, .slice g.fa n3 g.fc, .slice g.wa n4 g.wc], .pointer (some ⟨w.heap.size, 4, none⟩), .slice (some ⟨b1, o1, none⟩) n4 g.wc, .int .i64 (k : Nat), .pointer (some ⟨b1, o1 + k * 5, none⟩), .pointer (some ⟨b1, o1 + k * 5, none⟩), .int .i64 x.sort, .bool true, .bool false, .bool false, .pointer (some ⟨w.heap.size, 4, none⟩), .slice (some ⟨b1, o1, none⟩) n4 g.wc, .int .i64 (k : Nat), .pointer (some ⟨b1, o1 + k * 5, none⟩), .pointer (some ⟨b1, o1 + k * 5 + 1, none⟩), .agg #[.int .u64 (wdI x.not 0), .int .u64 (wdI x.not 1), .int .u64 (wdI x.not 2), .int .u64 (wdI x.not 3)], .bool z, .bool z, u142, u143, u144, u145, u146, u147, u148, u149, u150, u151, u152, u153, u154, u155, u156, u157, u158, u159]
                              rfl (by kernel_rfl) (by kernel_rfl) (by kernel_rfl) hN (Below.refl _ wr).drew (fun W W' h hB => h.trans (hB.mono h.size)) ?_ ?_
                            · refine Each.val 124 (.agg #[.slice g.sa n1 g.sc, .slice g.pa n2 g.pc, .int .i64 g.start, .slice g.fa n3 g.fc, .slice g.wa n4 g.wc]) (by kernel_rfl) (by kernel_rfl) (by kernel_rfl) hN (fun W hS _ => ld27r rfl (by kernel_rfl) (HK.out W hS).1) ?_
                              refine Each.val 125 (.pointer (some ⟨w.heap.size, 4, none⟩)) (by kernel_rfl) (by kernel_rfl) (by kernel_rfl) hN (fun W hS _ => fa27_4 rfl (by kernel_rfl)) ?_
                              refine Each.val 126 (.slice (some ⟨b1, o1, none⟩) n4 g.wc) (by kernel_rfl) (by kernel_rfl) (by kernel_rfl) hN (fun W hS _ => ld25 rfl (by kernel_rfl) (((HK.out W hS).2.1))) ?_
                              refine Each.val 127 (.int .i64 (k : Nat)) (by kernel_rfl) (by kernel_rfl) (by kernel_rfl) hN (fun _ _ _ => by kernel_rfl) ?_
                              refine Each.val 128 (.pointer (some ⟨b1, o1 + k * 5, none⟩)) (by kernel_rfl) (by kernel_rfl) (by kernel_rfl) hN (fun W hS _ => ix25 (c := g.wc) rfl (by kernel_rfl) (by kernel_rfl) hkn rfl) ?_
                              refine Each.val 129 (.pointer (some ⟨b1, o1 + k * 5, none⟩)) (by kernel_rfl) (by kernel_rfl) (by kernel_rfl) hN (fun W hS _ => fa80_0 rfl (by kernel_rfl)) ?_
                              refine Each.val 130 (.int .i64 x.sort) (by kernel_rfl) (by kernel_rfl) (by kernel_rfl) hN (fun W hS _ => ld3 rfl (by kernel_rfl) (((HK.out W hS).2.2.1))) ?_
                              refine Each.call 131 (.bool true) 31 #[.agg #[.slice g.sa n1 g.sc, .slice g.pa n2 g.pc, .int .i64 g.start, .slice g.fa n3 g.fc, .slice g.wa n4 g.wc], .int .i64 x.sort] (by kernel_rfl) (by kernel_rfl) (by kernel_rfl) (fun _ _ => by kernel_rfl) (fun W hS => (HC1 W).out) ?_
                              refine Each.val 132 (.bool false) (by kernel_rfl) (by kernel_rfl) (by kernel_rfl) hN (fun _ _ _ => by kernel_rfl) ?_
                              refine Each.val 133 (.bool false) (by kernel_rfl) (by kernel_rfl) (by kernel_rfl) hN (fun _ _ _ => by kernel_rfl) ?_
                              refine Each.val 134 (.pointer (some ⟨w.heap.size, 4, none⟩)) (by kernel_rfl) (by kernel_rfl) (by kernel_rfl) hN (fun W hS _ => fa27_4 rfl (by kernel_rfl)) ?_
                              refine Each.val 135 (.slice (some ⟨b1, o1, none⟩) n4 g.wc) (by kernel_rfl) (by kernel_rfl) (by kernel_rfl) hN (fun W hS _ => ld25 rfl (by kernel_rfl) (((HK.out W hS).2.1))) ?_
                              refine Each.val 136 (.int .i64 (k : Nat)) (by kernel_rfl) (by kernel_rfl) (by kernel_rfl) hN (fun _ _ _ => by kernel_rfl) ?_
                              refine Each.val 137 (.pointer (some ⟨b1, o1 + k * 5, none⟩)) (by kernel_rfl) (by kernel_rfl) (by kernel_rfl) hN (fun W hS _ => ix25 (c := g.wc) rfl (by kernel_rfl) (by kernel_rfl) hkn rfl) ?_
                              refine Each.val 138 (.pointer (some ⟨b1, o1 + k * 5 + 1, none⟩)) (by kernel_rfl) (by kernel_rfl) (by kernel_rfl) hN (fun W hS _ => fa80_1 rfl (by kernel_rfl)) ?_
                              refine Each.val 139 (.agg #[.int .u64 (wdI x.not 0), .int .u64 (wdI x.not 1), .int .u64 (wdI x.not 2), .int .u64 (wdI x.not 3)]) (by kernel_rfl) (by kernel_rfl) (by kernel_rfl) hN (fun W hS _ => ld66 rfl (by kernel_rfl) ((HK.out W hS).2.2.2)) ?_
                              refine Each.call 140 (.bool z) 34 #[.agg #[.int .u64 (wdI x.not 0), .int .u64 (wdI x.not 1), .int .u64 (wdI x.not 2), .int .u64 (wdI x.not 3)]] (by kernel_rfl) (by kernel_rfl) (by kernel_rfl) (fun _ _ => by kernel_rfl) (fun W hS => (HC2 W).out) ?_
                              refine Each.val 141 (.bool z) (by kernel_rfl) (by kernel_rfl) (by kernel_rfl) hN (fun _ _ _ => by kernel_rfl) ?_
                              exact trivial
                            · intro w' hS2
                              have K3 : Hid (Blk w' w.heap.size 27 #[.slice g.sa n1 g.sc, .slice g.pa n2 g.pc, .int .i64 g.start, .slice g.fa n3 g.fc, .slice g.wa n4 g.wc] ∧ Below w.heap.size w w') := Lib.hid ⟨K.out.1.below hS2 K.out.1.lt, K.out.2.trans (hS2.mono K.out.2.size)⟩
                              clear hS2 hN HC1 HC2 HK c0 c1 c2 c3 c4 l0 x10 x11 x12 x13 x14 K
                              cases z with
                              | true =>
                                have HE := Lib.hid (HXB.out (by unfold folB; rw [HRR.out, HZZ.out]; rfl))
                                clear hS hE HXB hx hc1 hi1
                                go_wp2
                                go_ret
                                exact ⟨by rw [HE.out]; rfl, K3.out.2⟩
                              | false =>
                                have HX : Hid (folB g.sorts.length x = true) := Lib.hid (by unfold folB; rw [HRR.out, HZZ.out]; rfl)
                                have HA : Hid (∀ (i : Nat) (y : FolM), i < k + 1 → g.follow[i]? = some y → folB g.sorts.length y = true) := Lib.hid (fun i y hi hy => by
                                  by_cases e : i = k
                                  · subst e; rw [hx] at hy; cases hy; exact HX.out
                                  · exact hS.out i y (by omega) hy)
                                clear hS HXB HX HRR HZZ
                                obtain ⟨c0, c1, c2, c3, c4⟩ := cells5' K3.out.1
                                have l0 := K3.out.1.lt
                                obtain ⟨wz, rfl⟩ : ∃ z : World, z = wr := ⟨_, rfl⟩
                                obtain ⟨wr, rfl⟩ : ∃ z : World, z = w' := ⟨_, rfl⟩
                                have e1 := E1h.out
                                have HX1 := Lib.hid hx
                                have E1 := Lib.hid e1
                                have HC1 := Lib.hid hc1
                                clear hx e1 hc1 hi1
                                go_wp2
                                obtain ⟨wo, rfl⟩ : ∃ wo : World, wo = wr := ⟨_, rfl⟩
                                go_loopw [9] (fun vi wr => ∃ m : Nat, vi = .int .i64 m ∧ m ≤ k ∧ Hid (∀ (j : Nat) (y : FolM), j < m → g.follow[j]? = some y → (y.sort == x.sort) = false) ∧ Hid (Blk wr w.heap.size 27 #[.slice g.sa n1 g.sc, .slice g.pa n2 g.pc, .int .i64 g.start, .slice g.fa n3 g.fc, .slice g.wa n4 g.wc] ∧ Below w.heap.size w wr)) (fun vi _ => k - (intOf vi).toNat)
                                case atStart => exact ⟨0, rfl, Nat.zero_le _, Lib.hid (fun j s hj => by omega), K3⟩
                                case round =>
                                  clear K3 c0 c1 c2 c3 c4 l0
                                  obtain ⟨m, rfl, hm, hM, K⟩ := hrel
                                  obtain ⟨c0, c1, c2, c3, c4⟩ := cells5' K.out.1
                                  have l0 := K.out.1.lt
                                  by_cases hml : m < k
                                  · obtain ⟨y, hy⟩ : ∃ y, g.follow[m]? = some y := ⟨_, List.getElem?_eq_getElem (by have := (List.getElem?_eq_some_iff.1 HX1.out).1; omega)⟩
                                    obtain ⟨b2, o2, e2, hb2, hc2, _⟩ := HG.out.follow m y hy
                                    obtain rfl : b1 = b2 := by rw [E1.out] at e2; simpa using congrArg (fun a => a.map (·.block)) e2
                                    obtain rfl : o1 = o2 := by rw [E1.out] at e2; simpa using congrArg (fun a => a.map (·.off)) e2
                                    have zz1 : (m : Int) < (k : Int) := by omega
                                    have zz2 : (m : Int) < (n4 : Int) := by omega
                                    have zz0 : (0 : Int) ≤ (m : Int) := by omega
                                    have hb2' := Nat.lt_of_lt_of_le hb1 K.out.2.size
                                    obtain ⟨x10, x11, x12, x13, x14⟩ := Fol_at (HC1.out.below K.out.2 hb1)
                                    obtain ⟨x20, x21, x22, x23, x24⟩ := Fol_at (hc2.below K.out.2 hb1)
                                    have HXB : Hid ((y.sort == x.sort) = true → q = 160) := Lib.hid (HQ.out.e7 k m y x hml hy HX1.out)
                                    have HXG : Hid ((y.sort == x.sort) = false → ∀ (j : Nat) (y : FolM), j < m + 1 → g.follow[j]? = some y → (y.sort == x.sort) = false) := Lib.hid (fun h j y' hj hy' => by
                                      by_cases e : j = m
                                      · subst e; rw [hy] at hy'; cases hy'; exact h
                                      · exact hM.out j y' (by omega) hy')
                                    rw [E1.out] at c4
                                    clear hy hc2 hM e2
                                    cases he : (y.sort == x.sort) with
                                    | true =>
                                      have HE := Lib.hid (HXB.out he)
                                      clear HXB HXG
                                      go_wp2
                                      go_region
                                      go_wp2
                                      go_ret
                                      exact ⟨by rw [HE.out]; rfl, K.out.2.drew⟩
                                    | false =>
                                      have HZ2 := Lib.hid (HXG.out he)
                                      clear HXB HXG
                                      go_wp2
                                      go_region
                                      go_wp2
                                      go_roundw
                                      case rel => exact ⟨m + 1, by go_num, by omega, HZ2, Lib.hid ⟨K.out.1.drew, K.out.2.drew⟩⟩
                                      case measure => simp [intOf]; omega
                                  · have HEn : Hid (∀ (i j : Nat) (x y : FolM), j < i → i < k + 1 → g.follow[j]? = some x → g.follow[i]? = some y → (x.sort == y.sort) = false) := Lib.hid (fun i j x' y' hj hi hx' hy' => by
                                      by_cases e : i = k
                                      · subst e; rw [HX1.out] at hy'; cases hy'; exact hM.out j x' (by omega) hx'
                                      · exact hE.out i j x' y' hj (by omega) hx' hy')
                                    clear hM hE
                                    obtain rfl : k = m := by omega
                                    go_wp2
                                    go_roundw
                                    case rel => exact ⟨k + 1, by go_num, by omega, HA, HEn, K⟩
                                    case measure => simp [intOf]; omega
                        · obtain rfl : n4 = k := by omega
                          have S6 := Lib.hid (fun (i : Nat) (x : FolM) hx => hS.out i x (by have := (List.getElem?_eq_some_iff.1 hx).1; have := N4.out; omega) hx)
                          have S7 := Lib.hid (fun (i j : Nat) (x y : FolM) hj hx hy => hE.out i j x y hj (by have := (List.getElem?_eq_some_iff.1 hy).1; have := N4.out; omega) hx hy)
                          have HE := Lib.hid (HQ.out.yes H0.out.1 H0.out.2.1 H0.out.2.2 HR3.out S1.out S2.out S3.out S4.out S5.out S6.out S7.out)
                          clear HQ HPr HFo HSo S1 S2 S3 S4 S5 S6 S7 hS hE
                          go_wp2
                          go_ret
                          exact ⟨by rw [HE.out]; rfl, K.out.2⟩
end Go.Proofs.Ytiihdbchchnncaa
end
section
namespace Go.Proofs.Ytiihdbchchnncaa
open Go Go.RowKit

/-- The boxes of a call of Fits. -/
structure F3 (w wr : World) (x y z : Array Value) : Prop where
  b0 : Blk wr w.heap.size 27 x
  b1 : Blk wr (w.heap.size + 1) 68 y
  b2 : Blk wr (w.heap.size + 1 + 1) 51 z
  bl : Below w.heap.size w wr
theorem F3.start (w : World) (x y z : Array Value) : F3 w (((w.alloc (.cells x 27)).alloc (.cells y 68)).alloc (.cells z 51)) x y z := by
  have h1 : Blk ((w.alloc (.cells x 27)).alloc (.cells y 68)) (w.heap.size + 1) 68 y := by
    have h := Blk.new (w.alloc (.cells x 27)) 68 y
    rw [World.size_alloc] at h
    exact h
  have h2 := Blk.new ((w.alloc (.cells x 27)).alloc (.cells y 68)) 51 z
  rw [World.size_alloc, World.size_alloc] at h2
  exact ⟨((Blk.new w 27 x).alloc _).alloc _, h1.alloc _, h2, (((Below.refl _ w).alloc (Nat.le_refl _) _).alloc (by simp) _).alloc (by simp; omega) _⟩
theorem F3.below {w wr W : World} {x y z : Array Value} (h : F3 w wr x y z) (hB : Below wr.heap.size wr W) : F3 w W x y z := ⟨h.b0.below hB h.b0.lt, h.b1.below hB h.b1.lt, h.b2.below hB h.b2.lt, h.bl.trans (hB.mono h.bl.size)⟩

/-- What of a list of trees and symbols the walk wants. -/
theorem zip_no {α β : Type} {q : α × β → Bool} : ∀ {l : List α} {r : List β} (i : Nat) (x : α) (y : β), l[i]? = some x → r[i]? = some y → q (x, y) = false → (l.zip r).all q = false := by
  intro l r i x y hx hy h
  rw [List.all_eq_false]
  exact ⟨(x, y), List.mem_of_getElem? (by rw [List.getElem?_zip_eq_some]; exact ⟨hx, hy⟩), by rw [h]; simp⟩
theorem zip_yes {α β : Type} {q : α × β → Bool} {l : List α} {r : List β} (h : ∀ (i : Nat) (x : α) (y : β), l[i]? = some x → r[i]? = some y → q (x, y) = true) : (l.zip r).all q = true := by
  rw [List.all_eq_true]
  rintro ⟨x, y⟩ hm
  obtain ⟨i, hi⟩ := List.mem_iff_getElem?.1 hm
  rw [List.getElem?_zip_eq_some] at hi
  exact h i x y hi.1 hi.2

theorem ofTB_set (g : GramM) (r : TreeM → Bool) (ss : BS) (so p : Int) (bn : Nat) (ka : Option Addr) (kc : Nat) (kids : List TreeM) :
    ofTB g r ⟨0, ss, so⟩ (.node p (bn : Int) ka kc kids) = (p == -1 && kids.length == 0 && ss.getLsbD bn) := by
  unfold ofTB
  dsimp only
  rw [if_pos rfl, Int.toNat_natCast]
theorem ofTB_sort (g : GramM) (d : Nat) (sk : Int) (ss : BS) (so p b : Int) (ka : Option Addr) (kc : Nat) (kids : List TreeM) (h : sk ≠ 0) :
    ofTB g (treeB g (d + 1)) ⟨sk, ss, so⟩ (.node p b ka kc kids) = ((numB p g.prods.length && b == 0 && (match g.prods[p.toNat]? with | none => false | some x => !(x.role == 11) && kids.length == x.right.length && (kids.zip x.right).all fun q => ofTB g (treeB g d) q.2 q.1)) && (match g.prods[p.toNat]? with | some x => x.left == so | none => false)) := by
  show (if sk = 0 then _ else (treeB g (d + 1) (.node p b ka kc kids) && _)) = _
  rw [if_neg h, treeB]
  rfl

set_option maxRecDepth 100000 in
set_option maxHeartbeats 4000000 in
theorem fits_any (g : GramM) (hr : ∀ x, x ∈ g.prods → x.right.length ≤ 1048576) (hn : g.prods.length ≤ 1048576) (d : Nat) : ∀ (s : SymM) (t : TreeM) (w : World), GIn w g → TreeIn w t → TFit d t → nestB d t = true →
    Calls Try.prog 52 #[gramV g, symV s, treeV t] w fun e w' => e = .returned (.bool (ofTB g (treeB g d) s t)) ∧ Below w.heap.size w w' := by
  induction d with
  | zero => intro s t w _ _ _ h; cases h
  | succ d ih =>
    intro s t w hg ht hfit hnest
    have HI := Lib.hid ih
    obtain ⟨p, b, ka, kc, kids⟩ := t
    obtain ⟨sk, ss, so⟩ := s
    rw [tree_in] at ht
    obtain ⟨hlen, ⟨bn, rfl, hbn⟩, hk⟩ := hfit
    rw [nestB, List.all_eq_true] at hnest
    have HG := Lib.hid hg
    have HT := Lib.hid ht
    have HK := Lib.hid hk
    have HNe := Lib.hid hnest
    have HR := Lib.hid hr
    have F := Lib.hid (F3.start w (gramC g) (symC ⟨sk, ss, so⟩) (treeC (.node p (bn : Int) ka kc kids)))
    obtain ⟨q, hq⟩ : ∃ q, q = ofTB g (treeB g (d + 1)) ⟨sk, ss, so⟩ (.node p (bn : Int) ka kc kids) := ⟨_, rfl⟩
    rw [← hq]
    have HQ := Lib.hid hq
    obtain ⟨n, hn'⟩ : ∃ n : Nat, n = kids.length := ⟨_, rfl⟩
    have HL := Lib.hid hn'
    obtain ⟨np, hnp⟩ : ∃ n : Nat, n = g.prods.length := ⟨_, rfl⟩
    have HNP := Lib.hid hnp
    obtain ⟨b, hb⟩ : ∃ b : Int, b = (bn : Int) := ⟨_, rfl⟩
    rw [← hb] at F ⊢
    rw [← hnp] at hn
    have HBn := Lib.hid hb
    clear ht hk ih hnest hg hr hq hb
    unfold gramV gramC symV symC treeV treeC at *
    dsimp only at *
    rw [← hn'] at hlen F ⊢
    rw [← hnp] at F ⊢
    clear hn' hnp
    have HBf := Lib.hid F.out.bl
    by_cases k0 : sk = 0
    · subst k0
      have HQ0 : Hid (q = (p == -1 && kids.length == 0 && ss.getLsbD bn)) := Lib.hid (by rw [HQ.out]; exact ofTB_set ..)
      cases t1 : (p == -1) with
      | false =>
        have HE : Hid (q = false) := Lib.hid (by rw [HQ0.out, t1]; rfl)
        clear HQ HQ0
        go_enter Try.func52, Try.ntmps52
        go_wp2
        go_ret
        exact ⟨by rw [HE.out]; rfl, HBf.out⟩
      | true =>
        by_cases t2 : n = 0
        · have t3 : ((n : Int) == 0) = true := by simp; omega
          have HE : Hid (q = ss.getLsbD bn) := Lib.hid (by rw [HQ0.out, t1, ← HL.out, t2]; rfl)
          have HH := Lib.hid (fun W => rhas_any ss bn hbn W)
          simp only [← HBn.out] at HH
          unfold vset at HH
          clear HQ HQ0 t2
          go_enter Try.func52, Try.ntmps52
          go_wp2_with fail
          with_reducible refine (HH.out _).mono ?_
          rintro e w3 ⟨rfl, hB3⟩
          have HB3 := Lib.hid (HBf.out.trans (hB3.mono HBf.out.size))
          clear hB3
          go_wp2
          go_ret
          exact ⟨by rw [HE.out]; rfl, HB3.out⟩
        · have t3 : ((n : Int) == 0) = false := by simp; omega
          have HE : Hid (q = false) := Lib.hid (by rw [HQ0.out, ← HL.out, show (n == 0) = false by simpa using t2]; simp)
          clear HQ HQ0 t2
          go_enter Try.func52, Try.ntmps52
          go_wp2
          go_ret
          exact ⟨by rw [HE.out]; rfl, HBf.out⟩
    · have t0 : (sk == 0) = false := by simpa using k0
      have HQ0 : Hid (q = ((numB p g.prods.length && b == 0 && (match g.prods[p.toNat]? with | none => false | some x => !(x.role == 11) && kids.length == x.right.length && (kids.zip x.right).all fun q => ofTB g (treeB g d) q.2 q.1)) && (match g.prods[p.toNat]? with | some x => x.left == so | none => false))) := Lib.hid (by rw [HQ.out, HBn.out]; exact ofTB_sort _ _ _ _ _ _ _ _ _ _ k0)
      clear HQ k0
      by_cases h1 : p < 0
      · have HE : Hid (q = false) := Lib.hid (by rw [HQ0.out]; unfold numB; rw [decide_eq_false (by omega : ¬ 0 ≤ p)]; simp only [Bool.false_and])
        have d1 : decide (p < 0) = true := by simpa using h1
        clear HQ0 h1
        go_enter Try.func52, Try.ntmps52
        go_wp2
        go_ret
        exact ⟨by rw [HE.out]; rfl, HBf.out⟩
      · have d1 : decide (p < 0) = false := by simpa using h1
        by_cases h2 : (np : Int) ≤ p
        · have HE : Hid (q = false) := Lib.hid (by rw [HQ0.out, ← HNP.out]; unfold numB; rw [decide_eq_false (by omega : ¬ p < (np : Int))]; simp only [Bool.and_false, Bool.false_and])
          have d2 : decide ((np : Int) ≤ p) = true := by simpa using h2
          clear HQ0 h1 h2
          go_enter Try.func52, Try.ntmps52
          go_wp2
          go_ret
          exact ⟨by rw [HE.out]; rfl, HBf.out⟩
        · have d2 : decide ((np : Int) ≤ p) = false := by simpa using h2
          by_cases h3 : b = 0
          · obtain ⟨i, rfl⟩ : ∃ i : Nat, p = i := ⟨p.toNat, by omega⟩
            have hi : i < np := by omega
            have d3 : (b != 0) = false := by simpa using h3
            have d4 : (b == 0) = true := by simpa using h3
            have d5 : decide (np ≤ i) = false := by simp; omega
            obtain ⟨P, hP⟩ : ∃ x, g.prods[i]? = some x := ⟨_, List.getElem?_eq_getElem (by rw [← HNP.out]; exact hi)⟩
            have HQ1 : Hid (q = ((!(P.role == 11) && kids.length == P.right.length && (kids.zip P.right).all fun q => ofTB g (treeB g d) q.2 q.1) && P.left == so)) := Lib.hid (by rw [HQ0.out, ← HNP.out, Int.toNat_natCast, hP, d4]; unfold numB; simp [hi])
            obtain ⟨b1, o1, e1, hb1, hc1, hi1⟩ := HG.out.prods i P hP
            have hPl := HR.out P (List.mem_of_getElem? hP)
            have z1 : (i : Int) < (np : Int) := by omega
            have HI1 := Lib.hid hi1
            have E1 := Lib.hid e1
            obtain ⟨W, hW⟩ : ∃ W, W = ((w.alloc (.cells #[.slice g.sa g.sorts.length g.sc, .slice g.pa np g.pc, .int .i64 g.start, .slice g.fa g.forbid.length g.fc, .slice g.wa g.follow.length g.wc] 27)).alloc (.cells #[.int .i64 sk, .int .u64 (wdI ss 0), .int .u64 (wdI ss 1), .int .u64 (wdI ss 2), .int .u64 (wdI ss 3), .int .i64 so] 68)).alloc (.cells #[.int .i64 (i : Int), .int .u8 b, .slice ka n kc] 51) := ⟨_, rfl⟩
            rw [← hW] at F
            obtain ⟨x0, x1, x2, x3, x4, x5, x6⟩ := Prod_at (hc1.below F.out.bl hb1)
            have hb1' := Nat.lt_of_lt_of_le hb1 F.out.bl.size
            have FP : Hid (F3 w (W.alloc (.cells #[.int .i64 P.left, .slice P.ra P.right.length P.rc, .string P.cons, .int .i64 P.role, .bool P.prefer, .bool P.avoid, .int .i64 P.frm] 46)) #[.slice g.sa g.sorts.length g.sc, .slice g.pa np g.pc, .int .i64 g.start, .slice g.fa g.forbid.length g.fc, .slice g.wa g.follow.length g.wc] #[.int .i64 sk, .int .u64 (wdI ss 0), .int .u64 (wdI ss 1), .int .u64 (wdI ss 2), .int .u64 (wdI ss 3), .int .i64 so] #[.int .i64 (i : Int), .int .u8 b, .slice ka n kc] ∧ Blk (W.alloc (.cells #[.int .i64 P.left, .slice P.ra P.right.length P.rc, .string P.cons, .int .i64 P.role, .bool P.prefer, .bool P.avoid, .int .i64 P.frm] 46)) W.heap.size 46 #[.int .i64 P.left, .slice P.ra P.right.length P.rc, .string P.cons, .int .i64 P.role, .bool P.prefer, .bool P.avoid, .int .i64 P.frm]) := Lib.hid ⟨F.out.below ((Below.refl _ _).alloc (Nat.le_refl _) _), Blk.new W 46 _⟩
            have HBP := Lib.hid FP.out.1.bl
            rw [E1.out] at FP F hW ⊢
            have HW := Lib.hid hW
            obtain ⟨gc0, gc1, gc2, gc3, gc4⟩ := cells5' F.out.b0
            obtain ⟨gs0, gs1, gs2, gs3, gs4, gs5⟩ := cells6 F.out.b1
            obtain ⟨gt0, gt1, gt2⟩ := cells3t F.out.b2
            have gl0 := F.out.b0.lt
            have gl1 := F.out.b1.lt
            have gl2 := F.out.b2.lt
            clear HQ0 h1 h2 h3 hP hc1 hi1 e1 HBf F hW hb1
            cases t5 : (P.role == 11) with
            | true =>
              have HE : Hid (q = false) := Lib.hid (by rw [HQ1.out, t5]; rfl)
              clear HQ1
              go_enter Try.func52, Try.ntmps52
              go_upto_region 5 with fail
              rw [← HW.out]
              go_wp2
              go_ret
              exact ⟨by rw [HE.out]; rfl, HBP.out⟩
            | false =>
              cases t6 : (P.left == so) with
              | false =>
                have HE : Hid (q = false) := Lib.hid (by rw [HQ1.out, t6]; simp only [Bool.and_false])
                have t7 : (P.left != so) = true := by unfold bne; rw [t6]; rfl
                clear HQ1
                go_enter Try.func52, Try.ntmps52
                go_upto_region 5 with fail
                rw [← HW.out]
                go_wp2
                go_ret
                exact ⟨by rw [HE.out]; rfl, HBP.out⟩
              | true =>
                have t7 : (P.left != so) = false := by unfold bne; rw [t6]; rfl
                by_cases h4 : n = P.right.length
                · have HQ2 : Hid (q = (kids.zip P.right).all fun q => ofTB g (treeB g d) q.2 q.1) := Lib.hid (by rw [HQ1.out, t5, t6, ← HL.out, h4]; simp)
                  have HN : Hid (∀ (i : Nat) (x : TreeM) (y : SymM), kids[i]? = some x → P.right[i]? = some y → ofTB g (treeB g d) y x = false → q = false) := Lib.hid fun i x y hx hy h => by rw [HQ2.out]; exact zip_no i x y hx hy h
                  have HY : Hid ((∀ (i : Nat) (x : TreeM) (y : SymM), kids[i]? = some x → P.right[i]? = some y → ofTB g (treeB g d) y x = true) → q = true) := Lib.hid fun h => by rw [HQ2.out]; exact zip_yes h
                  have HPR : Hid (n = P.right.length) := Lib.hid h4
                  rw [← h4] at FP HBP x1
                  clear HQ1 HQ2 h4
                  go_enter Try.func52, Try.ntmps52
                  go_upto_region 5 with fail
                  rw [← HW.out]
                  go_wp2
                  go_loopw [8] (fun vi wr => ∃ k : Nat, vi = .int .i64 k ∧ k ≤ n ∧ Hid (∀ (i : Nat) (x : TreeM) (y : SymM), i < k → kids[i]? = some x → P.right[i]? = some y → ofTB g (treeB g d) y x = true) ∧ Hid (F3 w wr #[.slice g.sa g.sorts.length g.sc, .slice (some ⟨b1, o1, none⟩) np g.pc, .int .i64 g.start, .slice g.fa g.forbid.length g.fc, .slice g.wa g.follow.length g.wc] #[.int .i64 sk, .int .u64 (wdI ss 0), .int .u64 (wdI ss 1), .int .u64 (wdI ss 2), .int .u64 (wdI ss 3), .int .i64 so] #[.int .i64 (i : Int), .int .u8 b, .slice ka n kc] ∧ Blk wr (W.heap.size) 46 #[.int .i64 P.left, .slice P.ra n P.rc, .string P.cons, .int .i64 P.role, .bool P.prefer, .bool P.avoid, .int .i64 P.frm])) (fun vi _ => n - (intOf vi).toNat)
                  case atStart => exact ⟨0, rfl, Nat.zero_le _, Lib.hid (fun j x y hj => by omega), FP⟩
                  case round =>
                    clear FP HBP x0 x1 x2 x3 x4 x5 x6 gc0 gc1 gc2 gc3 gc4 gs0 gs1 gs2 gs3 gs4 gs5 gt0 gt1 gt2 gl0 gl1 gl2
                    obtain ⟨k, rfl, hk, hS, F⟩ := hrel
                    obtain ⟨c0, c1, c2, c3, c4⟩ := cells5' F.out.1.b0
                    obtain ⟨s0, s1, s2, s3, s4, s5⟩ := cells6 F.out.1.b1
                    obtain ⟨r0, r1, r2⟩ := cells3t F.out.1.b2
                    obtain ⟨p0, p1, p2, p3, p4, p5, p6⟩ := cells7g F.out.2
                    have l0 := F.out.1.b0.lt
                    have l1 := F.out.1.b1.lt
                    have l2 := F.out.1.b2.lt
                    have l3 := F.out.2.lt
                    by_cases hlt : k < n
                    · obtain ⟨x, hx⟩ : ∃ x, kids[k]? = some x := ⟨_, List.getElem?_eq_getElem (by rw [← HL.out]; exact hlt)⟩
                      obtain ⟨y, hy⟩ : ∃ x, P.right[k]? = some x := ⟨_, List.getElem?_eq_getElem (by rw [← HPR.out]; exact hlt)⟩
                      obtain ⟨b2, o2, e2, hb2, hc2, hi2⟩ := HT.out k x hx
                      obtain ⟨b3, o3, e3, hb3, hc3, _⟩ := HI1.out k y hy
                      have HXN : Hid (ofTB g (treeB g d) y x = false → q = false) := Lib.hid (HN.out k x y hx hy)
                      have HXG : Hid (ofTB g (treeB g d) y x = true → ∀ (i : Nat) (x : TreeM) (y : SymM), i < k + 1 → kids[i]? = some x → P.right[i]? = some y → ofTB g (treeB g d) y x = true) := Lib.hid fun h i x' y' hi hx' hy' => by
                        by_cases e : i = k
                        · subst e; rw [hx] at hx'; rw [hy] at hy'; cases hx'; cases hy'; exact h
                        · exact hS.out i x' y' (by omega) hx' hy'
                      have HC := Lib.hid (fun W (hW : Below wr.heap.size wr W) => HI.out y x W (HG.out.below (F.out.1.bl.trans (hW.mono F.out.1.bl.size))) (TreeIn.below (F.out.1.bl.trans (hW.mono F.out.1.bl.size)) x hi2) (HK.out x (List.mem_of_getElem? hx)) (HNe.out x (List.mem_of_getElem? hx)))
                      have hb2' := Nat.lt_of_lt_of_le hb2 F.out.1.bl.size
                      have hb3' := Nat.lt_of_lt_of_le hb3 F.out.1.bl.size
                      have zz1 : (k : Int) < (n : Int) := by omega
                      have zz0 : (0 : Int) ≤ (k : Int) := by omega
                      have hcx := hc2.below F.out.1.bl hb2
                      obtain ⟨y0, y1, y2, y3, y4, y5⟩ := Sym_at (hc3.below F.out.1.bl hb3)
                      rw [e2] at r2
                      rw [e3] at p1
                      clear hx hy hc2 hc3 hi2 e2 e3 hS
                      generalize ofTB g (treeB g d) y x = r at *
                      obtain ⟨yk, ys, yo⟩ := y
                      obtain ⟨xp, xb, xa, xc, xk⟩ := x
                      obtain ⟨v0, v1, v2⟩ := Tree_at hcx
                      simp only [← HNP.out] at HC
                      rw [E1.out] at HC
                      dsimp only at *
                      clear hcx
                      go_wp2
                      refine wp_region_still_tail 11 (by kernel_rfl) (by kernel_rfl) ?_
                      show wpStill _ _ wr.drew _ _ _
                      obtain ⟨V, hV⟩ : ∃ W, W = wr.drew := ⟨_, rfl⟩
                      have kW : ∀ a, V.cell? a = wr.cell? a := fun a => by rw [hV]; rfl
                      have hs : V.heap.size = wr.heap.size := by rw [hV]; rfl
                      have FW : Hid (F3 w V #[.slice g.sa g.sorts.length g.sc, .slice (some ⟨b1, o1, none⟩) np g.pc, .int .i64 g.start, .slice g.fa g.forbid.length g.fc, .slice g.wa g.follow.length g.wc] #[.int .i64 sk, .int .u64 (wdI ss 0), .int .u64 (wdI ss 1), .int .u64 (wdI ss 2), .int .u64 (wdI ss 3), .int .i64 so] #[.int .i64 (i : Int), .int .u8 b, .slice ka n kc] ∧ Blk V (W.heap.size) 46 #[.int .i64 P.left, .slice P.ra n P.rc, .string P.cons, .int .i64 P.role, .bool P.prefer, .bool P.avoid, .int .i64 P.frm]) := Lib.hid (by rw [hV]; exact ⟨F.out.1.below (Below.refl _ _).drew, F.out.2.drew⟩)
                      have HCW := Lib.hid (HC.out V (by rw [hV]; exact (Below.refl _ _).drew))
                      rw [← hV]
                      simp only [← kW] at c0 c1 c2 c3 c4 s0 s1 s2 s3 s4 s5 r0 r1 r2 p0 p1 p2 p3 p4 p5 p6 y0 y1 y2 y3 y4 y5 v0 v1 v2
                      rw [← hs] at l0 l1 l2 l3 hb2' hb3'
                      have HV := Lib.hid hV
                      clear kW hV hs F HC
                      simp only [List.take_succ_cons, List.take_zero, List.drop_succ_cons, List.drop_zero]
                      repeat still_step
                      refine wpStill_nil ?_
                      show wpList _ _ _ _ _ wr.drew
                      rw [← HV.out]
                      clear HV
                      go_wp2_with fail
                      with_reducible refine HCW.out.mono ?_
                      rintro e w3 ⟨rfl, hB3⟩
                      have F3' : Hid (F3 w w3 #[.slice g.sa g.sorts.length g.sc, .slice (some ⟨b1, o1, none⟩) np g.pc, .int .i64 g.start, .slice g.fa g.forbid.length g.fc, .slice g.wa g.follow.length g.wc] #[.int .i64 sk, .int .u64 (wdI ss 0), .int .u64 (wdI ss 1), .int .u64 (wdI ss 2), .int .u64 (wdI ss 3), .int .i64 so] #[.int .i64 (i : Int), .int .u8 b, .slice ka n kc] ∧ Blk w3 (W.heap.size) 46 #[.int .i64 P.left, .slice P.ra n P.rc, .string P.cons, .int .i64 P.role, .bool P.prefer, .bool P.avoid, .int .i64 P.frm]) := Lib.hid ⟨FW.out.1.below hB3, FW.out.2.below hB3 FW.out.2.lt⟩
                      clear hB3 FW HCW c0 c1 c2 c3 c4 s0 s1 s2 s3 s4 s5 r0 r1 r2 p0 p1 p2 p3 p4 p5 p6 y0 y1 y2 y3 y4 y5 v0 v1 v2 l0 l1 l2 l3
                      cases r with
                      | false =>
                        have HE := Lib.hid (HXN.out rfl)
                        clear HXN HXG
                        go_wp2
                        go_ret
                        exact ⟨by rw [HE.out]; rfl, F3'.out.1.bl⟩
                      | true =>
                        have HZ := Lib.hid (HXG.out rfl)
                        clear HXN HXG
                        go_wp2
                        go_roundw
                        case rel => exact ⟨k + 1, by go_num, by omega, HZ, F3'⟩
                        case measure => simp [intOf]; omega
                    · obtain rfl : k = n := by omega
                      have HE := Lib.hid (HY.out (fun i x y hx hy => hS.out i x y (by have := (List.getElem?_eq_some_iff.1 hx).1; have := HL.out; omega) hx hy))
                      clear hS HY HN
                      go_wp2
                      go_ret
                      exact ⟨by rw [HE.out]; rfl, F.out.1.bl⟩
                · have HE : Hid (q = false) := Lib.hid (by rw [HQ1.out, ← HL.out, show (n == P.right.length) = false by simpa using h4]; simp)
                  have t8 : ((P.right.length : Int) != (n : Int)) = true := by simp; omega
                  clear HQ1 h4
                  go_enter Try.func52, Try.ntmps52
                  go_upto_region 5 with fail
                  rw [← HW.out]
                  go_wp2
                  go_ret
                  exact ⟨by rw [HE.out]; rfl, HBP.out⟩
          · have HE : Hid (q = false) := Lib.hid (by rw [HQ0.out, show (b == 0) = false by simpa using h3]; simp only [Bool.and_false, Bool.false_and])
            have d3 : (b != 0) = true := by simpa using h3
            clear HQ0 h1 h2 h3
            go_enter Try.func52, Try.ntmps52
            go_wp2
            go_ret
            exact ⟨by rw [HE.out]; rfl, HBf.out⟩
end Go.Proofs.Ytiihdbchchnncaa
end
