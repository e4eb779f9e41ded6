import Derived.Test.YtiihdbchchnncaaP7
namespace Go.Proofs.Ytiihdbchchnncaa
open Go Go.RowKit

/-- How many of the first i stay. -/
def cnt (p : Nat → Bool) (i : Nat) : Nat := (List.range i).countP p
/-- The new number of the i-th. -/
def plI (p : Nat → Bool) (i : Nat) : Int := if p i then cnt p i else -1
theorem cnt_succ (p : Nat → Bool) (i : Nat) : cnt p (i + 1) = if p i then cnt p i + 1 else cnt p i := by
  unfold cnt
  rw [List.range_succ, List.countP_append, List.countP_singleton]
  split <;> simp_all
theorem cnt_le (p : Nat → Bool) (i : Nat) : cnt p i ≤ i := by
  unfold cnt
  exact Nat.le_trans List.countP_le_length (by simp)

/-- A block of places. -/
def PL (w : World) (B n : Nat) (p : Nat → Bool) : Prop := ∃ cs : Array Value, Blk w B 132 cs ∧ cs.size = 1000 ∧ ∀ i, i < n → cs[i]? = some (.int .i64 (plI p i))
theorem PL.below {w W : World} {B n m : Nat} {p : Nat → Bool} (h : PL w B n p) (hB : Below m w W) (hm : B < m) : PL W B n p := by
  obtain ⟨cs, h1, h2⟩ := h
  exact ⟨cs, h1.below hB hm, h2⟩
theorem PL.lt {w : World} {B n : Nat} {p : Nat → Bool} (h : PL w B n p) : B < w.heap.size := by
  obtain ⟨cs, h1, _⟩ := h
  exact h1.lt
theorem PL.kept {w W : World} {B n : Nat} {p : Nat → Bool} {row : Option Nat} (h : PL w B n p) (hg : w.grownBy W row) (hne : some B ≠ row) : PL W B n p := by
  obtain ⟨cs, h1, h2⟩ := h
  exact ⟨cs, h1.kept hg hne, h2⟩
theorem PL.cell {w : World} {B n : Nat} {p : Nat → Bool} (h : PL w B n p) {i : Nat} (hi : i < n) : w.cell? ⟨B, i, none⟩ = some (.int .i64 (plI p i)) := by
  obtain ⟨cs, h1, _, h3⟩ := h
  rw [h1.cell i, h3 i hi]
theorem set_self (cs : Array Value) (i : Nat) (v : Value) (h : i < cs.size) : (cs.setIfInBounds i v)[i]? = some v := by simp [h]
theorem zc132 : Try.zeroCells132.size = 1000 := by kernel_rfl

set_option maxRecDepth 100000 in
set_option maxHeartbeats 1000000 in
theorem places_any (n : Nat) (hn : n ≤ 1000) (p : Nat → Bool) (K : Nat) (lb : Array Value) (eg : ∀ args w, (callFunc K args).run Try.prog w = .ok (.enter K args) w) (w : World)
    (H : ∀ i, i < n → ∀ W, Below w.heap.size w W → Calls Try.prog K (#[.int .i64 (i : Nat)] ++ lb) W fun e w' => e = .returned (.bool (p i)) ∧ Below W.heap.size W w') :
    Calls Try.prog 71 #[.int .i64 n, .func (.func K) #[] lb] w fun e w' => e = .returned (.pointer (some ⟨w.heap.size, 0, none⟩)) ∧ PL w' w.heap.size n p ∧ Below w.heap.size w w' := by
  have HH := Lib.hid H
  clear H
  have HP0 : Hid (PL (w.alloc (.cells Try.zeroCells132 132)) w.heap.size 0 p) := Lib.hid ⟨_, Blk.new w 132 _, zc132, fun i hi => by omega⟩
  have HB0 : Hid (Below w.heap.size w (w.alloc (.cells Try.zeroCells132 132))) := Lib.hid ((Below.refl _ _).alloc (Nat.le_refl _) _)
  go_enter Try.func71, Try.ntmps71
  go_wp2
  go_loopw [6, 9] (fun q i wr => ∃ k : Nat, i = .int .i64 k ∧ k ≤ n ∧ q = .int .i64 (cnt p k : Nat) ∧ Hid (PL wr w.heap.size k p) ∧ Hid (Below w.heap.size w wr))
    (fun _ i _ => n - (intOf i).toNat)
  case atStart => exact ⟨0, rfl, Nat.zero_le _, rfl, HP0, HB0⟩
  case round =>
    clear HP0 HB0
    obtain ⟨k, rfl, hk, rfl, hP, hB⟩ := hrel
    have hl := hP.out.lt
    by_cases hlt : k < n
    · obtain ⟨cs, hb, hsz, hcs⟩ := hP.out
      have c0 := hb.cell k
      rw [Array.getElem?_eq_getElem (show k < cs.size by omega)] at c0
      have f0 := hb.frozen k
      generalize cs[k]'(by omega) = v0 at c0
      have hb1 := hb.set k (.int .i64 (-1))
      have hB1 : Below w.heap.size w (wr.setCell ⟨w.heap.size, k, none⟩ (.int .i64 (-1))) := hB.out.setCell (p := ⟨w.heap.size, k, none⟩) (Nat.le_refl _) _
      have HC := Lib.hid (HH.out k hlt _ hB1)
      have HB1 := Lib.hid hB1
      have HCs := Lib.hid hcs
      have Hb1 := Lib.hid hb1
      have n1 : (k : Int) < (n : Int) := by omega
      have n2 : (k : Int) < 1000 := by omega
      have hc1 := cnt_le p k
      have HS := Lib.hid (cnt_succ p k)
      have HPl : Hid (∀ r, p k = r → plI p k = if r then (cnt p k : Int) else -1) := Lib.hid (fun r h => by unfold plI; rw [h])
      clear hb hcs hb1 hB1 hP hB
      cases hr : p k with
      | true =>
        have HPl2 := Lib.hid (HPl.out true hr)
        rw [hr] at HC HS
        clear HPl hr
        go_wp2_with fail
        refine HC.out.mono ?_
        rintro e w3 ⟨rfl, hB3⟩
        have hb3 := Hb1.out.below hB3 Hb1.out.lt
        have c3 := hb3.cell k
        rw [set_self _ _ _ (by omega)] at c3
        have f3 := hb3.frozen k
        have l3 := hb3.lt
        have HB3 := Lib.hid (HB1.out.trans (hB3.mono HB1.out.size))
        have HP3 : Hid (PL (w3.setCell ⟨w.heap.size, k, none⟩ (.int .i64 (cnt p k : Nat))) w.heap.size (k + 1) p) := Lib.hid ⟨_, hb3.set k _, by simp [hsz], fun i hi => by
          by_cases e : i = k
          · subst e
            rw [HPl2.out, set_self _ _ _ (by rw [Array.size_setIfInBounds]; omega)]; rfl
          · rw [Array.getElem?_setIfInBounds_ne (fun h => e h.symm), Array.getElem?_setIfInBounds_ne (fun h => e h.symm)]
            exact HCs.out i (by omega)⟩
        have HB4 : Hid (Below w.heap.size w (w3.setCell ⟨w.heap.size, k, none⟩ (.int .i64 (cnt p k : Nat)))) := Lib.hid (HB3.out.setCell (p := ⟨w.heap.size, k, none⟩) (Nat.le_refl _) _)
        have hs2 : Hid (cnt p (k + 1) = cnt p k + 1) := Lib.hid (by rw [HS.out]; rfl)
        clear hB3 hb3 HPl2 HC HS c0 f0
        go_wp2
        go_roundw
        case rel => exact ⟨k + 1, by go_num, by omega, by rw [hs2.out]; go_num, HP3, HB4⟩
        case measure => simp [intOf]; omega
      | false =>
        have HPl2 := Lib.hid (HPl.out false hr)
        rw [hr] at HC HS
        clear HPl hr
        go_wp2_with fail
        refine HC.out.mono ?_
        rintro e w3 ⟨rfl, hB3⟩
        have hb3 := Hb1.out.below hB3 Hb1.out.lt
        have HB3 := Lib.hid (HB1.out.trans (hB3.mono HB1.out.size))
        have HP3 : Hid (PL w3 w.heap.size (k + 1) p) := Lib.hid ⟨_, hb3, by simp [hsz], fun i hi => by
          by_cases e : i = k
          · subst e
            rw [HPl2.out, set_self _ _ _ (by omega)]; rfl
          · rw [Array.getElem?_setIfInBounds_ne (fun h => e h.symm)]
            exact HCs.out i (by omega)⟩
        have hs2 : Hid (cnt p (k + 1) = cnt p k) := Lib.hid (by rw [HS.out]; rfl)
        clear hB3 hb3 HPl2 HC HS c0 f0
        go_wp2
        go_roundw
        case rel => exact ⟨k + 1, by go_num, by omega, by rw [hs2.out], HP3, HB3⟩
        case measure => simp [intOf]; omega
    · obtain rfl : k = n := by omega
      go_wp2
      go_ret
      exact ⟨rfl, hP.out, hB.out⟩

set_option maxRecDepth 100000 in
set_option maxHeartbeats 400000 in
/-- kept's first closure. -/
theorem f70_any (L : List Bool) (B : Nat) (a : Option Addr) (c : Nat) (j : Nat) (hj : j < L.length) (w : World) (hb : Blk w B 82 #[.slice a L.length c]) (hq : RowBool w a L) :
    Calls Try.prog 70 #[.int .i64 j, .pointer (some ⟨B, 0, none⟩)] w fun e w' => e = .returned (.bool (lv L j)) ∧ Below w.heap.size w w' := by
  have c0 := hb.cell 0
  simp only [List.getElem?_toArray, List.getElem?_cons_zero] at c0
  obtain ⟨b, off, rfl, hbw, hc, ht⟩ := hq j _ (List.getElem?_eq_getElem hj)
  clear ht
  have c1 := Bool_at hc
  have e : lv L (j : Int) = L[j] := by unfold lv; simp [List.getD_eq_getElem?_getD, hj]
  rw [← e, Nat.mul_one] at c1
  have hB := hb.lt
  have h0 : (j : Int) < (L.length : Int) := by omega
  clear hb hq hc e
  generalize lv L (j : Int) = r at *
  clear hj
  generalize L.length = n at *
  go_enter Try.func70, Try.ntmps70
  go_wp2
  go_ret
  exact ⟨rfl, Below.refl _ _⟩
end Go.Proofs.Ytiihdbchchnncaa
