import Derived.RegionTactic
import Derived.BigRegion
import Derived.IntWalk
import Derived.Deep.DeepCutAuto
import Derived.Test.YtiihdbchchnncaaM6
section
namespace Go.Proofs.Ytiihdbchchnncaa
open Go Go.RowKit

/-- What makes a symbol one that may not be. -/
def symBad (n : Int) (role : Int) (s : SymM) : Bool := if s.kind = 0 then s.set == 0#256 || !(s.sort == 0) else if s.kind = 1 then !(s.set == 0#256) || (!(numB s.sort n) || role == 11) else true
def rfirstB (n : Int) (x : ProdM) : Bool := !(numB x.left n) || (decide (30 < x.right.length) || (decide (x.role < 0) || (decide (11 < x.role) || (decide (x.frm < -1) || (decide (64 < x.cons.size) || ((!x.cons.toList.isEmpty && !(x.role == 0)) || (x.prefer && x.avoid)))))))
def rprodB (n : Int) (x : ProdM) : Bool := !(rfirstB n x) && x.right.all fun s => !(symBad n x.role s)

theorem all_congr' {α : Type} {p q : α → Bool} {l : List α} (h : ∀ x, x ∈ l → p x = q x) : l.all p = l.all q := by
  induction l with
  | nil => rfl
  | cons x r ih => rw [List.all_cons, List.all_cons, h x (by simp), ih (fun y hy => h y (by simp [hy]))]
theorem sym_bad (n role : Int) (s : SymM) (h : role ≠ 11) : (!(symBad n role s)) = symB n s := by
  have hr : (role == 11) = false := by simpa using h
  unfold symBad symB
  by_cases h0 : s.kind = 0
  · rw [if_pos h0, if_pos h0]; cases s.set == 0#256 <;> cases s.sort == 0 <;> rfl
  · rw [if_neg h0, if_neg h0]
    by_cases h1 : s.kind = 1
    · rw [if_pos h1, if_pos h1, hr]; cases s.set == 0#256 <;> cases numB s.sort n <;> rfl
    · rw [if_neg h1, if_neg h1]; rfl
theorem sym_bad11 (n : Int) (s : SymM) : (!(symBad n 11 s)) = (symB n s && sortB (fun _ => false) s) := by
  obtain ⟨k, st, so⟩ := s
  unfold symBad symB sortB
  dsimp only
  by_cases h0 : k = 0
  · subst h0
    rw [if_pos rfl, if_pos rfl]
    cases st == 0#256 <;> cases so == 0 <;> rfl
  · rw [if_neg h0, if_neg h0]
    by_cases h1 : k = 1
    · subst h1
      rw [if_pos rfl, if_pos rfl]
      cases st == 0#256 <;> cases numB so n <;> rfl
    · rw [if_neg h1, if_neg h1]; rfl
theorem all_and {α : Type} (p q : α → Bool) (l : List α) : (l.all fun x => p x && q x) = (l.all p && l.all q) := by
  induction l with
  | nil => rfl
  | cons x r ih => simp only [List.all_cons, ih]; cases p x <;> cases q x <;> simp
theorem empty_size (s : ByteArray) : s.toList.isEmpty = decide (s.size = 0) := by
  rw [toList_data]
  have h : s.size = s.data.toList.length := by rw [Array.length_toList]; rfl
  rw [h]
  cases s.data.toList <;> simp
theorem rprod_eq (n : Int) (x : ProdM) : rprodB n x = prodB n x := by
  have hE : x.cons.toList.isEmpty = true → decide (64 < x.cons.size) = false := fun h => by
    rw [empty_size] at h
    have := of_decide_eq_true h
    exact decide_eq_false (by omega)
  have h64 : decide (x.cons.size ≤ 64) = !decide (64 < x.cons.size) := by rw [Bool.eq_iff_iff]; simp
  have h30 : decide (x.right.length ≤ 30) = !decide (30 < x.right.length) := by rw [Bool.eq_iff_iff]; simp
  have hf : decide (-1 ≤ x.frm) = !decide (x.frm < -1) := by rw [Bool.eq_iff_iff]; simp
  unfold rprodB prodB rfirstB roleB
  rw [h64, h30, hf]
  generalize numB x.left n = b0
  generalize decide (64 < x.cons.size) = b1 at *
  generalize decide (30 < x.right.length) = b2
  generalize decide (x.frm < -1) = b3
  generalize x.cons.toList.isEmpty = b4 at *
  generalize x.prefer = b5
  generalize x.avoid = b6
  clear h64 h30 hf
  by_cases r0 : x.role < 0
  · rw [if_pos r0, decide_eq_true r0]; simp
  · rw [if_neg r0, decide_eq_false r0]
    by_cases r1 : 11 < x.role
    · rw [if_pos r1, decide_eq_true r1]; simp
    · rw [if_neg r1, decide_eq_false r1]
      by_cases r2 : x.role = 0
      · have e0 : (x.role == 0) = true := by simpa using r2
        rw [if_pos r2, e0, show (x.right.all fun s => !symBad n x.role s) = x.right.all (symB n) from all_congr' fun s _ => sym_bad n x.role s (by omega)]
        generalize x.right.all (symB n) = b7
        clear r0 r1 r2 e0
        revert hE
        cases b0 <;> cases b1 <;> cases b2 <;> cases b3 <;> cases b4 <;> cases b5 <;> cases b6 <;> cases b7 <;> decide
      · have e0 : (x.role == 0) = false := by simpa using r2
        rw [if_neg r2, e0]
        by_cases r3 : x.role = 11
        · rw [r3, show (x.right.all fun s => !symBad n 11 s) = (x.right.all fun s => symB n s && sortB (fun _ => false) s) from all_congr' fun s _ => sym_bad11 n s, all_and]
          rw [show sortsB (fun _ => false) x = x.right.all (sortB fun _ => false) from rfl]
          generalize x.right.all (symB n) = b7
          generalize x.right.all (sortB fun _ => false) = b8
          clear r0 r1 r2 r3 e0
          revert hE
          cases b0 <;> cases b1 <;> cases b2 <;> cases b3 <;> cases b4 <;> cases b5 <;> cases b6 <;> cases b7 <;> cases b8 <;> decide
        · rw [if_neg (fun h => r3 h.1), show (x.right.all fun s => !symBad n x.role s) = x.right.all (symB n) from all_congr' fun s _ => sym_bad n x.role s r3]
          generalize x.right.all (symB n) = b7
          clear r0 r1 r2 r3 e0
          revert hE
          cases b0 <;> cases b1 <;> cases b2 <;> cases b3 <;> cases b4 <;> cases b5 <;> cases b6 <;> cases b7 <;> decide

/-- The boxes of a call with a grammar and something else. -/
structure TwoG (w wr : World) (x : Array Value) (t : Nat) (y : Array Value) : Prop where
  b0 : Blk wr w.heap.size 27 x
  b1 : Blk wr (w.heap.size + 1) t y
  bl : Below w.heap.size w wr
theorem TwoG.start (w : World) (x : Array Value) (t : Nat) (y : Array Value) : TwoG w ((w.alloc (.cells x 27)).alloc (.cells y t)) x t y := by
  refine ⟨(Blk.new w 27 x).alloc _, ?_, ((Below.refl _ w).alloc (Nat.le_refl _) _).alloc (by simp) _⟩
  have h := Blk.new (w.alloc (.cells x 27)) t y
  rw [World.size_alloc] at h
  exact h
theorem TwoG.below {w wr W : World} {x : Array Value} {t : Nat} {y : Array Value} (h : TwoG w wr x t y) (hB : Below wr.heap.size wr W) : TwoG w W x t y := ⟨h.b0.below hB h.b0.lt, h.b1.below hB h.b1.lt, h.bl.trans (hB.mono h.bl.size)⟩
theorem cells6 {W : World} {B t : Nat} {a b c d e f : Value} (h : Blk W B t #[a, b, c, d, e, f]) : W.cell? ⟨B, 0, none⟩ = some a ∧ W.cell? ⟨B, 1, none⟩ = some b ∧ W.cell? ⟨B, 2, none⟩ = some c ∧ W.cell? ⟨B, 3, none⟩ = some d ∧ W.cell? ⟨B, 4, none⟩ = some e ∧ W.cell? ⟨B, 5, none⟩ = some f :=
  ⟨h.cell 0, h.cell 1, h.cell 2, h.cell 3, h.cell 4, h.cell 5⟩

set_option maxRecDepth 100000 in
set_option maxHeartbeats 4000000 in
theorem rprod_any (g : GramM) (x : ProdM) (w : World) (hx : ProdIn w x) (hn : x.right.length ≤ maxLen) : Calls Try.prog 32 #[gramV g, prodV x] w fun e w' => e = .returned (.bool (prodB g.sorts.length x)) ∧ Below w.heap.size w w' := by
  have T0 := Lib.hid (TwoG.start w (gramC g) 46 (prodC x))
  have hB0 := T0.out.bl
  have HX := Lib.hid hx
  have HS0 := Lib.hid (rsort_any g x.left ((w.alloc (.cells (gramC g) 27)).alloc (.cells (prodC x) 46)))
  have HSo := fun n W => Lib.hid (rsort_any g n W)
  rw [← rprod_eq]
  obtain ⟨q, hq⟩ : ∃ q, q = rprodB g.sorts.length x := ⟨_, rfl⟩
  rw [← hq]
  obtain ⟨r0, hr0⟩ : ∃ r, r = numB x.left g.sorts.length := ⟨_, rfl⟩
  have HF : Hid (rfirstB g.sorts.length x = true → q = false) := Lib.hid fun h => by rw [hq, rprodB, h]; rfl
  have HB : Hid (∀ (i : Nat) (s : SymM), x.right[i]? = some s → symBad g.sorts.length x.role s = true → q = false) := Lib.hid fun i s hi hs => by
    rw [hq, rprodB, List.all_eq_false.2 ⟨s, List.mem_of_getElem? hi, by rw [hs]; simp⟩, Bool.and_false]
  have HY : Hid (rfirstB g.sorts.length x = false → (∀ (i : Nat) (s : SymM), x.right[i]? = some s → symBad g.sorts.length x.role s = false) → q = true) := Lib.hid fun h hs => by
    rw [hq, rprodB, h, List.all_eq_true.2 (fun s hm => by obtain ⟨i, hi⟩ := List.mem_iff_getElem?.1 hm; rw [hs i s hi]; rfl)]; rfl
  have HU : Hid (rfirstB g.sorts.length x = (!r0 || (decide (30 < x.right.length) || (decide (x.role < 0) || (decide (11 < x.role) || (decide (x.frm < -1) || (decide (64 < x.cons.size) || ((!x.cons.toList.isEmpty && !(x.role == 0)) || (x.prefer && x.avoid))))))))) := Lib.hid (by rw [hr0]; rfl)
  rw [← hr0] at HS0
  unfold maxLen at hn
  obtain ⟨ns, hns⟩ : ∃ n : Nat, n = g.sorts.length := ⟨_, rfl⟩
  rw [← hns] at HF HB HY HU HSo
  clear hq hr0 hx hB0
  obtain ⟨left, ra, rc, right, cons, role, prefer, avoid, frm⟩ := x
  unfold ProdIn at HX
  dsimp only at *
  obtain ⟨m, hm⟩ : ∃ m, m = right.length := ⟨_, rfl⟩
  have HM := Lib.hid hm
  unfold gramV gramC prodV prodC at *
  dsimp only at *
  rw [← hns] at T0 HS0 ⊢
  rw [← hm] at hn T0 HS0 HU ⊢
  simp only [← hns] at HSo
  clear hns hm
  cases r0 with
  | false =>
    have HE : Hid (q = false) := Lib.hid (HF.out (by rw [HU.out]; simp []))
    clear HF HB HY HU
    go_enter Try.func32, Try.ntmps32
    go_wp2_with fail
    with_reducible refine HS0.out.mono ?_
    rintro e w1 ⟨rfl, hB1⟩
    have T := Lib.hid (T0.out.below hB1)
    clear hB1 T0 HS0
    obtain ⟨c0, c1, c2, c3, c4⟩ := cells5' T.out.b0
    obtain ⟨p0, p1, p2, p3, p4, p5, p6⟩ := cells7g T.out.b1
    have l0 := T.out.b0.lt
    have l1 := T.out.b1.lt
    go_wp2
    go_ret
    exact ⟨by rw [HE.out]; rfl, T.out.bl⟩
  | true =>
    by_cases h1 : 30 < m
    · have d1 : decide ((30 : Int) < (m : Int)) = true := by simp; omega
      have HE : Hid (q = false) := Lib.hid (HF.out (by rw [HU.out]; simp [h1]))
      clear HF HB HY HU
      clear h1
      go_enter Try.func32, Try.ntmps32
      go_wp2_with fail
      with_reducible refine HS0.out.mono ?_
      rintro e w1 ⟨rfl, hB1⟩
      have T := Lib.hid (T0.out.below hB1)
      clear hB1 T0 HS0
      obtain ⟨c0, c1, c2, c3, c4⟩ := cells5' T.out.b0
      obtain ⟨p0, p1, p2, p3, p4, p5, p6⟩ := cells7g T.out.b1
      have l0 := T.out.b0.lt
      have l1 := T.out.b1.lt
      go_wp2
      go_ret
      exact ⟨by rw [HE.out]; rfl, T.out.bl⟩
    · have d1 : decide ((30 : Int) < (m : Int)) = false := by simp; omega
      by_cases h2 : role < 0
      · have d2 : decide (role < 0) = true := by simp; omega
        have HE : Hid (q = false) := Lib.hid (HF.out (by rw [HU.out]; simp [h2]))
        clear HF HB HY HU
        clear h2
        go_enter Try.func32, Try.ntmps32
        go_wp2_with fail
        with_reducible refine HS0.out.mono ?_
        rintro e w1 ⟨rfl, hB1⟩
        have T := Lib.hid (T0.out.below hB1)
        clear hB1 T0 HS0
        obtain ⟨c0, c1, c2, c3, c4⟩ := cells5' T.out.b0
        obtain ⟨p0, p1, p2, p3, p4, p5, p6⟩ := cells7g T.out.b1
        have l0 := T.out.b0.lt
        have l1 := T.out.b1.lt
        go_wp2
        go_ret
        exact ⟨by rw [HE.out]; rfl, T.out.bl⟩
      · have d2 : decide (role < 0) = false := by simp; omega
        by_cases h3 : 11 < role
        · have d3 : decide ((11 : Int) < role) = true := by simp; omega
          have HE : Hid (q = false) := Lib.hid (HF.out (by rw [HU.out]; simp [h3]))
          clear HF HB HY HU
          clear h3
          go_enter Try.func32, Try.ntmps32
          go_wp2_with fail
          with_reducible refine HS0.out.mono ?_
          rintro e w1 ⟨rfl, hB1⟩
          have T := Lib.hid (T0.out.below hB1)
          clear hB1 T0 HS0
          obtain ⟨c0, c1, c2, c3, c4⟩ := cells5' T.out.b0
          obtain ⟨p0, p1, p2, p3, p4, p5, p6⟩ := cells7g T.out.b1
          have l0 := T.out.b0.lt
          have l1 := T.out.b1.lt
          go_wp2
          go_ret
          exact ⟨by rw [HE.out]; rfl, T.out.bl⟩
        · have d3 : decide ((11 : Int) < role) = false := by simp; omega
          by_cases h4 : frm < -1
          · have d4 : decide (frm < (-1 : Int)) = true := by simp; omega
            have HE : Hid (q = false) := Lib.hid (HF.out (by rw [HU.out]; simp [h4]))
            clear HF HB HY HU
            clear h4
            go_enter Try.func32, Try.ntmps32
            go_wp2_with fail
            with_reducible refine HS0.out.mono ?_
            rintro e w1 ⟨rfl, hB1⟩
            have T := Lib.hid (T0.out.below hB1)
            clear hB1 T0 HS0
            obtain ⟨c0, c1, c2, c3, c4⟩ := cells5' T.out.b0
            obtain ⟨p0, p1, p2, p3, p4, p5, p6⟩ := cells7g T.out.b1
            have l0 := T.out.b0.lt
            have l1 := T.out.b1.lt
            go_wp2
            go_ret
            exact ⟨by rw [HE.out]; rfl, T.out.bl⟩
          · have d4 : decide (frm < (-1 : Int)) = false := by simp; omega
            by_cases h5 : 64 < cons.size
            · have d5 : decide ((64 : Int) < (cons.size : Int)) = true := by simp; omega
              have HE : Hid (q = false) := Lib.hid (HF.out (by rw [HU.out]; simp [h5]))
              clear HF HB HY HU
              clear h5
              go_enter Try.func32, Try.ntmps32
              go_wp2_with fail
              with_reducible refine HS0.out.mono ?_
              rintro e w1 ⟨rfl, hB1⟩
              have T := Lib.hid (T0.out.below hB1)
              clear hB1 T0 HS0
              obtain ⟨c0, c1, c2, c3, c4⟩ := cells5' T.out.b0
              obtain ⟨p0, p1, p2, p3, p4, p5, p6⟩ := cells7g T.out.b1
              have l0 := T.out.b0.lt
              have l1 := T.out.b1.lt
              go_wp2
              go_ret
              exact ⟨by rw [HE.out]; rfl, T.out.bl⟩
            · have d5 : decide ((64 : Int) < (cons.size : Int)) = false := by simp; omega
              cases he : cons.toList.isEmpty with
              | true =>
                have z0 : cons.toList = [] := by simpa using he
                have k6 : (!cons.toList.isEmpty && !(role == 0)) = false := by rw [he]; rfl
                cases prefer with
                | false =>
                  have HE0 : Hid (rfirstB _ _ = false) := Lib.hid (by rw [HU.out]; simp [h1, h2, h3, h4, h5, he])
                  have HY2 := Lib.hid (HY.out HE0.out)
                  clear HF HY HU HE0
                  go_enter Try.func32, Try.ntmps32
                  go_wp2_with fail
                  with_reducible refine HS0.out.mono ?_
                  rintro e w1 ⟨rfl, hB1⟩
                  have T := Lib.hid (T0.out.below hB1)
                  clear hB1 T0 HS0
                  obtain ⟨c0, c1, c2, c3, c4⟩ := cells5' T.out.b0
                  obtain ⟨p0, p1, p2, p3, p4, p5, p6⟩ := cells7g T.out.b1
                  have l0 := T.out.b0.lt
                  have l1 := T.out.b1.lt
                  go_wp2
                  go_loopw [5] (fun i wr => ∃ k : Nat, i = .int .i64 k ∧ k ≤ m ∧ Hid (∀ (i : Nat) (s : SymM), i < k → right[i]? = some s → symBad ns role s = false) ∧ Hid (TwoG w wr #[.slice g.sa ns g.sc, .slice g.pa g.prods.length g.pc, .int .i64 g.start, .slice g.fa g.forbid.length g.fc, .slice g.wa g.follow.length g.wc] 46 #[.int .i64 left, .slice ra m rc, .string cons, .int .i64 role, .bool false, .bool avoid, .int .i64 frm])) (fun i _ => m - (intOf i).toNat)
                  case atStart => exact ⟨0, rfl, Nat.zero_le _, Lib.hid (fun j s hj => by omega), T⟩
                  case round =>
                    clear T c0 c1 c2 c3 c4 p0 p1 p2 p3 p4 p5 p6 l0 l1
                    obtain ⟨k, rfl, hk, hS, T⟩ := hrel
                    obtain ⟨c0, c1, c2, c3, c4⟩ := cells5' T.out.b0
                    obtain ⟨p0, p1, p2, p3, p4, p5, p6⟩ := cells7g T.out.b1
                    have l0 := T.out.b0.lt
                    have l1 := T.out.b1.lt
                    by_cases hlt : k < m
                    · obtain ⟨s, hs⟩ : ∃ s, right[k]? = some s := ⟨_, List.getElem?_eq_getElem (by rw [← HM.out]; exact hlt)⟩
                      obtain ⟨b1, o1, e1, hb1, hc1, _⟩ := HX.out k s hs
                      obtain ⟨x0, x1, x2, x3, x4, x5⟩ := Sym_at (hc1.below T.out.bl hb1)
                      have hb1' := Nat.lt_of_lt_of_le hb1 T.out.bl.size
                      have HXB : Hid (symBad ns role s = true → q = false) := Lib.hid (HB.out k s hs)
                      have HXG : Hid (symBad ns role s = false → ∀ (i : Nat) (s : SymM), i < k + 1 → right[i]? = some s → symBad ns role s = false) := Lib.hid (fun h i y hi hy => by
                        by_cases e : i = k
                        · subst e; rw [hs] at hy; cases hy; exact h
                        · exact hS.out i y (by omega) hy)
                      have z1 : (k : Int) < (m : Int) := by omega
                      have z0 : (0 : Int) ≤ (k : Int) := by omega
                      rw [e1] at p1
                      clear hs hc1 hS e1
                      obtain ⟨sk, ss, so⟩ := s
                      dsimp only at *
                      obtain ⟨z, hz⟩ : ∃ z, z = (ss == 0#256) := ⟨_, rfl⟩
                      have HZE : Hid ((ss == 0#256) = z) := Lib.hid hz.symm
                      have HEm : ∀ W, Hid (Calls Try.prog 34 #[.agg #[.int .u64 (wdI ss 0), .int .u64 (wdI ss 1), .int .u64 (wdI ss 2), .int .u64 (wdI ss 3)]] W fun e w' => e = .returned (.bool z) ∧ Below W.heap.size W w') := fun W => Lib.hid (by rw [hz]; exact empty_any ss W)
                      have hA : Below wr.heap.size wr (wr.alloc (.cells #[.int .i64 sk, .int .u64 (wdI ss 0), .int .u64 (wdI ss 1), .int .u64 (wdI ss 2), .int .u64 (wdI ss 3), .int .i64 so] 68)) := (Below.refl _ wr).alloc (Nat.le_refl _) _
                      have TA := Lib.hid (T.out.below hA)
                      have SA := Lib.hid (Blk.new wr 68 #[.int .i64 sk, .int .u64 (wdI ss 0), .int .u64 (wdI ss 1), .int .u64 (wdI ss 2), .int .u64 (wdI ss 3), .int .i64 so])
                      clear hz hA T
                      by_cases k0 : sk = 0
                      · subst k0
                        cases z with
                        | true =>
                          have HE := Lib.hid (HXB.out (by unfold symBad; rw [if_pos rfl, HZE.out]; rfl))
                          clear HXB HXG HB HY2
                          go_wp2_with fail
                          with_reducible refine (HEm _).out.mono ?_
                          rintro e w3 ⟨rfl, hB3⟩
                          have T3 := Lib.hid (TA.out.below hB3)
                          have S3 := Lib.hid (SA.out.below hB3 SA.out.lt)
                          have HBf := Lib.hid T3.out.bl
                          clear hB3
                          obtain ⟨c0, c1, c2, c3, c4⟩ := cells5' T3.out.b0
                          obtain ⟨p0, p1, p2, p3, p4, p5, p6⟩ := cells7g T3.out.b1
                          obtain ⟨s0, s1, s2, s3, s4, s5⟩ := cells6 S3.out
                          have l0 := T3.out.b0.lt
                          have l1 := T3.out.b1.lt
                          have l2 := S3.out.lt
                          go_wp2
                          go_ret
                          exact ⟨by rw [HE.out]; rfl, HBf.out⟩
                        | false =>
                          by_cases k1 : so = 0
                          · subst k1
                            have HZ2 := Lib.hid (HXG.out (by unfold symBad; rw [if_pos rfl, HZE.out]; rfl))
                            clear HXB HXG
                            go_wp2_with fail
                            with_reducible refine (HEm _).out.mono ?_
                            rintro e w3 ⟨rfl, hB3⟩
                            have T3 := Lib.hid (TA.out.below hB3)
                            have S3 := Lib.hid (SA.out.below hB3 SA.out.lt)
                            have HBf := Lib.hid T3.out.bl
                            clear hB3
                            obtain ⟨c0, c1, c2, c3, c4⟩ := cells5' T3.out.b0
                            obtain ⟨p0, p1, p2, p3, p4, p5, p6⟩ := cells7g T3.out.b1
                            obtain ⟨s0, s1, s2, s3, s4, s5⟩ := cells6 S3.out
                            have l0 := T3.out.b0.lt
                            have l1 := T3.out.b1.lt
                            have l2 := S3.out.lt
                            go_wp2
                            go_roundw
                            case rel => exact ⟨k + 1, by go_num, by omega, HZ2, T3⟩
                            case measure => simp [intOf]; omega
                          · have z5 : (so != 0) = true := by simpa using k1
                            have z6 : (so == 0) = false := by simpa using k1
                            have HE := Lib.hid (HXB.out (by unfold symBad; rw [if_pos rfl, HZE.out, z6]; rfl))
                            clear HXB HXG HB HY2
                            clear k1
                            go_wp2_with fail
                            with_reducible refine (HEm _).out.mono ?_
                            rintro e w3 ⟨rfl, hB3⟩
                            have T3 := Lib.hid (TA.out.below hB3)
                            have S3 := Lib.hid (SA.out.below hB3 SA.out.lt)
                            have HBf := Lib.hid T3.out.bl
                            clear hB3
                            obtain ⟨c0, c1, c2, c3, c4⟩ := cells5' T3.out.b0
                            obtain ⟨p0, p1, p2, p3, p4, p5, p6⟩ := cells7g T3.out.b1
                            obtain ⟨s0, s1, s2, s3, s4, s5⟩ := cells6 S3.out
                            have l0 := T3.out.b0.lt
                            have l1 := T3.out.b1.lt
                            have l2 := S3.out.lt
                            go_wp2
                            go_ret
                            exact ⟨by rw [HE.out]; rfl, HBf.out⟩
                      · have z7 : (sk == 0) = false := by simpa using k0
                        by_cases k2 : sk = 1
                        · subst k2
                          cases z with
                          | false =>
                            have HE := Lib.hid (HXB.out (by unfold symBad; rw [if_neg k0, if_pos rfl, HZE.out]; rfl))
                            clear HXB HXG HB HY2
                            clear k0
                            go_wp2_with fail
                            with_reducible refine (HEm _).out.mono ?_
                            rintro e w3 ⟨rfl, hB3⟩
                            have T3 := Lib.hid (TA.out.below hB3)
                            have S3 := Lib.hid (SA.out.below hB3 SA.out.lt)
                            have HBf := Lib.hid T3.out.bl
                            clear hB3
                            obtain ⟨c0, c1, c2, c3, c4⟩ := cells5' T3.out.b0
                            obtain ⟨p0, p1, p2, p3, p4, p5, p6⟩ := cells7g T3.out.b1
                            obtain ⟨s0, s1, s2, s3, s4, s5⟩ := cells6 S3.out
                            have l0 := T3.out.b0.lt
                            have l1 := T3.out.b1.lt
                            have l2 := S3.out.lt
                            go_wp2
                            go_ret
                            exact ⟨by rw [HE.out]; rfl, HBf.out⟩
                          | true =>
                            obtain ⟨y, hy⟩ : ∃ y, y = numB so ns := ⟨_, rfl⟩
                            have HYN := Lib.hid hy
                            have HS1 : ∀ W, Hid (Calls Try.prog 31 #[.agg #[.slice g.sa ns g.sc, .slice g.pa g.prods.length g.pc, .int .i64 g.start, .slice g.fa g.forbid.length g.fc, .slice g.wa g.follow.length g.wc], .int .i64 so] W fun e w' => e = .returned (.bool y) ∧ Below W.heap.size W w') := fun W => Lib.hid (by rw [hy]; exact (HSo so W).out)
                            clear hy HSo
                            cases y with
                            | false =>
                              have HE := Lib.hid (HXB.out (by unfold symBad; rw [if_neg k0, if_pos rfl, HZE.out, ← HYN.out]; rfl))
                              clear HXB HXG HB HY2
                              clear k0
                              go_wp2_with fail
                              with_reducible refine (HEm _).out.mono ?_
                              rintro e w3 ⟨rfl, hB3⟩
                              have T3 := Lib.hid (TA.out.below hB3)
                              have S3 := Lib.hid (SA.out.below hB3 SA.out.lt)
                              have HBf := Lib.hid T3.out.bl
                              clear hB3
                              obtain ⟨c0, c1, c2, c3, c4⟩ := cells5' T3.out.b0
                              obtain ⟨p0, p1, p2, p3, p4, p5, p6⟩ := cells7g T3.out.b1
                              obtain ⟨s0, s1, s2, s3, s4, s5⟩ := cells6 S3.out
                              have l0 := T3.out.b0.lt
                              have l1 := T3.out.b1.lt
                              have l2 := S3.out.lt
                              go_wp2_with fail
                              with_reducible refine (HS1 _).out.mono ?_
                              rintro e w4 ⟨rfl, hB4⟩
                              have T4 := Lib.hid (T3.out.below hB4)
                              have S4 := Lib.hid (S3.out.below hB4 S3.out.lt)
                              have HBf := Lib.hid T4.out.bl
                              clear hB4 c0 c1 c2 c3 c4 p0 p1 p2 p3 p4 p5 p6 s0 s1 s2 s3 s4 s5 l0 l1 l2
                              obtain ⟨c0, c1, c2, c3, c4⟩ := cells5' T4.out.b0
                              obtain ⟨p0, p1, p2, p3, p4, p5, p6⟩ := cells7g T4.out.b1
                              obtain ⟨s0, s1, s2, s3, s4, s5⟩ := cells6 S4.out
                              have l0 := T4.out.b0.lt
                              have l1 := T4.out.b1.lt
                              have l2 := S4.out.lt
                              go_wp2
                              go_ret
                              exact ⟨by rw [HE.out]; rfl, HBf.out⟩
                            | true =>
                              by_cases k3 : role = 11
                              · have z8 : (role == 11) = true := by simpa using k3
                                have HE := Lib.hid (HXB.out (by unfold symBad; rw [if_neg k0, if_pos rfl, HZE.out, ← HYN.out, z8]; rfl))
                                clear HXB HXG HB HY2
                                clear k0 k3
                                go_wp2_with fail
                                with_reducible refine (HEm _).out.mono ?_
                                rintro e w3 ⟨rfl, hB3⟩
                                have T3 := Lib.hid (TA.out.below hB3)
                                have S3 := Lib.hid (SA.out.below hB3 SA.out.lt)
                                have HBf := Lib.hid T3.out.bl
                                clear hB3
                                obtain ⟨c0, c1, c2, c3, c4⟩ := cells5' T3.out.b0
                                obtain ⟨p0, p1, p2, p3, p4, p5, p6⟩ := cells7g T3.out.b1
                                obtain ⟨s0, s1, s2, s3, s4, s5⟩ := cells6 S3.out
                                have l0 := T3.out.b0.lt
                                have l1 := T3.out.b1.lt
                                have l2 := S3.out.lt
                                go_wp2_with fail
                                with_reducible refine (HS1 _).out.mono ?_
                                rintro e w4 ⟨rfl, hB4⟩
                                have T4 := Lib.hid (T3.out.below hB4)
                                have S4 := Lib.hid (S3.out.below hB4 S3.out.lt)
                                have HBf := Lib.hid T4.out.bl
                                clear hB4 c0 c1 c2 c3 c4 p0 p1 p2 p3 p4 p5 p6 s0 s1 s2 s3 s4 s5 l0 l1 l2
                                obtain ⟨c0, c1, c2, c3, c4⟩ := cells5' T4.out.b0
                                obtain ⟨p0, p1, p2, p3, p4, p5, p6⟩ := cells7g T4.out.b1
                                obtain ⟨s0, s1, s2, s3, s4, s5⟩ := cells6 S4.out
                                have l0 := T4.out.b0.lt
                                have l1 := T4.out.b1.lt
                                have l2 := S4.out.lt
                                go_wp2
                                go_ret
                                exact ⟨by rw [HE.out]; rfl, HBf.out⟩
                              · have z8 : (role == 11) = false := by simpa using k3
                                have HZ2 := Lib.hid (HXG.out (by unfold symBad; rw [if_neg k0, if_pos rfl, HZE.out, ← HYN.out, z8]; rfl))
                                clear HXB HXG
                                clear k0 k3
                                go_wp2_with fail
                                with_reducible refine (HEm _).out.mono ?_
                                rintro e w3 ⟨rfl, hB3⟩
                                have T3 := Lib.hid (TA.out.below hB3)
                                have S3 := Lib.hid (SA.out.below hB3 SA.out.lt)
                                have HBf := Lib.hid T3.out.bl
                                clear hB3
                                obtain ⟨c0, c1, c2, c3, c4⟩ := cells5' T3.out.b0
                                obtain ⟨p0, p1, p2, p3, p4, p5, p6⟩ := cells7g T3.out.b1
                                obtain ⟨s0, s1, s2, s3, s4, s5⟩ := cells6 S3.out
                                have l0 := T3.out.b0.lt
                                have l1 := T3.out.b1.lt
                                have l2 := S3.out.lt
                                go_wp2_with fail
                                with_reducible refine (HS1 _).out.mono ?_
                                rintro e w4 ⟨rfl, hB4⟩
                                have T4 := Lib.hid (T3.out.below hB4)
                                have S4 := Lib.hid (S3.out.below hB4 S3.out.lt)
                                have HBf := Lib.hid T4.out.bl
                                clear hB4 c0 c1 c2 c3 c4 p0 p1 p2 p3 p4 p5 p6 s0 s1 s2 s3 s4 s5 l0 l1 l2
                                obtain ⟨c0, c1, c2, c3, c4⟩ := cells5' T4.out.b0
                                obtain ⟨p0, p1, p2, p3, p4, p5, p6⟩ := cells7g T4.out.b1
                                obtain ⟨s0, s1, s2, s3, s4, s5⟩ := cells6 S4.out
                                have l0 := T4.out.b0.lt
                                have l1 := T4.out.b1.lt
                                have l2 := S4.out.lt
                                go_wp2
                                go_roundw
                                case rel => exact ⟨k + 1, by go_num, by omega, HZ2, T4⟩
                                case measure => simp [intOf]; omega
                        · have z9 : (sk == 1) = false := by simpa using k2
                          have z10 : (sk != 0) = true := by simpa using k0
                          have z11 : (sk != 1) = true := by simpa using k2
                          have HE := Lib.hid (HXB.out (by unfold symBad; rw [if_neg k0, if_neg k2]))
                          clear HXB HXG HB HY2
                          clear k0 k2
                          have HBf := Lib.hid TA.out.bl
                          go_wp2
                          go_ret
                          exact ⟨by rw [HE.out]; rfl, HBf.out⟩
                    · have HE := Lib.hid (HY2.out (fun i s hs => hS.out i s (by have := (List.getElem?_eq_some_iff.1 hs).1; have := HM.out; omega) hs))
                      obtain rfl : k = m := by omega
                      clear hS HB HY2
                      go_wp2
                      go_ret
                      exact ⟨by rw [HE.out]; rfl, T.out.bl⟩
                | true =>
                  cases avoid with
                  | false =>
                    have HE0 : Hid (rfirstB _ _ = false) := Lib.hid (by rw [HU.out]; simp [h1, h2, h3, h4, h5, he])
                    have HY2 := Lib.hid (HY.out HE0.out)
                    clear HF HY HU HE0
                    go_enter Try.func32, Try.ntmps32
                    go_wp2_with fail
                    with_reducible refine HS0.out.mono ?_
                    rintro e w1 ⟨rfl, hB1⟩
                    have T := Lib.hid (T0.out.below hB1)
                    clear hB1 T0 HS0
                    obtain ⟨c0, c1, c2, c3, c4⟩ := cells5' T.out.b0
                    obtain ⟨p0, p1, p2, p3, p4, p5, p6⟩ := cells7g T.out.b1
                    have l0 := T.out.b0.lt
                    have l1 := T.out.b1.lt
                    go_wp2
                    go_loopw [5] (fun i wr => ∃ k : Nat, i = .int .i64 k ∧ k ≤ m ∧ Hid (∀ (i : Nat) (s : SymM), i < k → right[i]? = some s → symBad ns role s = false) ∧ Hid (TwoG w wr #[.slice g.sa ns g.sc, .slice g.pa g.prods.length g.pc, .int .i64 g.start, .slice g.fa g.forbid.length g.fc, .slice g.wa g.follow.length g.wc] 46 #[.int .i64 left, .slice ra m rc, .string cons, .int .i64 role, .bool true, .bool false, .int .i64 frm])) (fun i _ => m - (intOf i).toNat)
                    case atStart => exact ⟨0, rfl, Nat.zero_le _, Lib.hid (fun j s hj => by omega), T⟩
                    case round =>
                      clear T c0 c1 c2 c3 c4 p0 p1 p2 p3 p4 p5 p6 l0 l1
                      obtain ⟨k, rfl, hk, hS, T⟩ := hrel
                      obtain ⟨c0, c1, c2, c3, c4⟩ := cells5' T.out.b0
                      obtain ⟨p0, p1, p2, p3, p4, p5, p6⟩ := cells7g T.out.b1
                      have l0 := T.out.b0.lt
                      have l1 := T.out.b1.lt
                      by_cases hlt : k < m
                      · obtain ⟨s, hs⟩ : ∃ s, right[k]? = some s := ⟨_, List.getElem?_eq_getElem (by rw [← HM.out]; exact hlt)⟩
                        obtain ⟨b1, o1, e1, hb1, hc1, _⟩ := HX.out k s hs
                        obtain ⟨x0, x1, x2, x3, x4, x5⟩ := Sym_at (hc1.below T.out.bl hb1)
                        have hb1' := Nat.lt_of_lt_of_le hb1 T.out.bl.size
                        have HXB : Hid (symBad ns role s = true → q = false) := Lib.hid (HB.out k s hs)
                        have HXG : Hid (symBad ns role s = false → ∀ (i : Nat) (s : SymM), i < k + 1 → right[i]? = some s → symBad ns role s = false) := Lib.hid (fun h i y hi hy => by
                          by_cases e : i = k
                          · subst e; rw [hs] at hy; cases hy; exact h
                          · exact hS.out i y (by omega) hy)
                        have z1 : (k : Int) < (m : Int) := by omega
                        have z0 : (0 : Int) ≤ (k : Int) := by omega
                        rw [e1] at p1
                        clear hs hc1 hS e1
                        obtain ⟨sk, ss, so⟩ := s
                        dsimp only at *
                        obtain ⟨z, hz⟩ : ∃ z, z = (ss == 0#256) := ⟨_, rfl⟩
                        have HZE : Hid ((ss == 0#256) = z) := Lib.hid hz.symm
                        have HEm : ∀ W, Hid (Calls Try.prog 34 #[.agg #[.int .u64 (wdI ss 0), .int .u64 (wdI ss 1), .int .u64 (wdI ss 2), .int .u64 (wdI ss 3)]] W fun e w' => e = .returned (.bool z) ∧ Below W.heap.size W w') := fun W => Lib.hid (by rw [hz]; exact empty_any ss W)
                        have hA : Below wr.heap.size wr (wr.alloc (.cells #[.int .i64 sk, .int .u64 (wdI ss 0), .int .u64 (wdI ss 1), .int .u64 (wdI ss 2), .int .u64 (wdI ss 3), .int .i64 so] 68)) := (Below.refl _ wr).alloc (Nat.le_refl _) _
                        have TA := Lib.hid (T.out.below hA)
                        have SA := Lib.hid (Blk.new wr 68 #[.int .i64 sk, .int .u64 (wdI ss 0), .int .u64 (wdI ss 1), .int .u64 (wdI ss 2), .int .u64 (wdI ss 3), .int .i64 so])
                        clear hz hA T
                        by_cases k0 : sk = 0
                        · subst k0
                          cases z with
                          | true =>
                            have HE := Lib.hid (HXB.out (by unfold symBad; rw [if_pos rfl, HZE.out]; rfl))
                            clear HXB HXG HB HY2
                            go_wp2_with fail
                            with_reducible refine (HEm _).out.mono ?_
                            rintro e w3 ⟨rfl, hB3⟩
                            have T3 := Lib.hid (TA.out.below hB3)
                            have S3 := Lib.hid (SA.out.below hB3 SA.out.lt)
                            have HBf := Lib.hid T3.out.bl
                            clear hB3
                            obtain ⟨c0, c1, c2, c3, c4⟩ := cells5' T3.out.b0
                            obtain ⟨p0, p1, p2, p3, p4, p5, p6⟩ := cells7g T3.out.b1
                            obtain ⟨s0, s1, s2, s3, s4, s5⟩ := cells6 S3.out
                            have l0 := T3.out.b0.lt
                            have l1 := T3.out.b1.lt
                            have l2 := S3.out.lt
                            go_wp2
                            go_ret
                            exact ⟨by rw [HE.out]; rfl, HBf.out⟩
                          | false =>
                            by_cases k1 : so = 0
                            · subst k1
                              have HZ2 := Lib.hid (HXG.out (by unfold symBad; rw [if_pos rfl, HZE.out]; rfl))
                              clear HXB HXG
                              go_wp2_with fail
                              with_reducible refine (HEm _).out.mono ?_
                              rintro e w3 ⟨rfl, hB3⟩
                              have T3 := Lib.hid (TA.out.below hB3)
                              have S3 := Lib.hid (SA.out.below hB3 SA.out.lt)
                              have HBf := Lib.hid T3.out.bl
                              clear hB3
                              obtain ⟨c0, c1, c2, c3, c4⟩ := cells5' T3.out.b0
                              obtain ⟨p0, p1, p2, p3, p4, p5, p6⟩ := cells7g T3.out.b1
                              obtain ⟨s0, s1, s2, s3, s4, s5⟩ := cells6 S3.out
                              have l0 := T3.out.b0.lt
                              have l1 := T3.out.b1.lt
                              have l2 := S3.out.lt
                              go_wp2
                              go_roundw
                              case rel => exact ⟨k + 1, by go_num, by omega, HZ2, T3⟩
                              case measure => simp [intOf]; omega
                            · have z5 : (so != 0) = true := by simpa using k1
                              have z6 : (so == 0) = false := by simpa using k1
                              have HE := Lib.hid (HXB.out (by unfold symBad; rw [if_pos rfl, HZE.out, z6]; rfl))
                              clear HXB HXG HB HY2
                              clear k1
                              go_wp2_with fail
                              with_reducible refine (HEm _).out.mono ?_
                              rintro e w3 ⟨rfl, hB3⟩
                              have T3 := Lib.hid (TA.out.below hB3)
                              have S3 := Lib.hid (SA.out.below hB3 SA.out.lt)
                              have HBf := Lib.hid T3.out.bl
                              clear hB3
                              obtain ⟨c0, c1, c2, c3, c4⟩ := cells5' T3.out.b0
                              obtain ⟨p0, p1, p2, p3, p4, p5, p6⟩ := cells7g T3.out.b1
                              obtain ⟨s0, s1, s2, s3, s4, s5⟩ := cells6 S3.out
                              have l0 := T3.out.b0.lt
                              have l1 := T3.out.b1.lt
                              have l2 := S3.out.lt
                              go_wp2
                              go_ret
                              exact ⟨by rw [HE.out]; rfl, HBf.out⟩
                        · have z7 : (sk == 0) = false := by simpa using k0
                          by_cases k2 : sk = 1
                          · subst k2
                            cases z with
                            | false =>
                              have HE := Lib.hid (HXB.out (by unfold symBad; rw [if_neg k0, if_pos rfl, HZE.out]; rfl))
                              clear HXB HXG HB HY2
                              clear k0
                              go_wp2_with fail
                              with_reducible refine (HEm _).out.mono ?_
                              rintro e w3 ⟨rfl, hB3⟩
                              have T3 := Lib.hid (TA.out.below hB3)
                              have S3 := Lib.hid (SA.out.below hB3 SA.out.lt)
                              have HBf := Lib.hid T3.out.bl
                              clear hB3
                              obtain ⟨c0, c1, c2, c3, c4⟩ := cells5' T3.out.b0
                              obtain ⟨p0, p1, p2, p3, p4, p5, p6⟩ := cells7g T3.out.b1
                              obtain ⟨s0, s1, s2, s3, s4, s5⟩ := cells6 S3.out
                              have l0 := T3.out.b0.lt
                              have l1 := T3.out.b1.lt
                              have l2 := S3.out.lt
                              go_wp2
                              go_ret
                              exact ⟨by rw [HE.out]; rfl, HBf.out⟩
                            | true =>
                              obtain ⟨y, hy⟩ : ∃ y, y = numB so ns := ⟨_, rfl⟩
                              have HYN := Lib.hid hy
                              have HS1 : ∀ W, Hid (Calls Try.prog 31 #[.agg #[.slice g.sa ns g.sc, .slice g.pa g.prods.length g.pc, .int .i64 g.start, .slice g.fa g.forbid.length g.fc, .slice g.wa g.follow.length g.wc], .int .i64 so] W fun e w' => e = .returned (.bool y) ∧ Below W.heap.size W w') := fun W => Lib.hid (by rw [hy]; exact (HSo so W).out)
                              clear hy HSo
                              cases y with
                              | false =>
                                have HE := Lib.hid (HXB.out (by unfold symBad; rw [if_neg k0, if_pos rfl, HZE.out, ← HYN.out]; rfl))
                                clear HXB HXG HB HY2
                                clear k0
                                go_wp2_with fail
                                with_reducible refine (HEm _).out.mono ?_
                                rintro e w3 ⟨rfl, hB3⟩
                                have T3 := Lib.hid (TA.out.below hB3)
                                have S3 := Lib.hid (SA.out.below hB3 SA.out.lt)
                                have HBf := Lib.hid T3.out.bl
                                clear hB3
                                obtain ⟨c0, c1, c2, c3, c4⟩ := cells5' T3.out.b0
                                obtain ⟨p0, p1, p2, p3, p4, p5, p6⟩ := cells7g T3.out.b1
                                obtain ⟨s0, s1, s2, s3, s4, s5⟩ := cells6 S3.out
                                have l0 := T3.out.b0.lt
                                have l1 := T3.out.b1.lt
                                have l2 := S3.out.lt
                                go_wp2_with fail
                                with_reducible refine (HS1 _).out.mono ?_
                                rintro e w4 ⟨rfl, hB4⟩
                                have T4 := Lib.hid (T3.out.below hB4)
                                have S4 := Lib.hid (S3.out.below hB4 S3.out.lt)
                                have HBf := Lib.hid T4.out.bl
                                clear hB4 c0 c1 c2 c3 c4 p0 p1 p2 p3 p4 p5 p6 s0 s1 s2 s3 s4 s5 l0 l1 l2
                                obtain ⟨c0, c1, c2, c3, c4⟩ := cells5' T4.out.b0
                                obtain ⟨p0, p1, p2, p3, p4, p5, p6⟩ := cells7g T4.out.b1
                                obtain ⟨s0, s1, s2, s3, s4, s5⟩ := cells6 S4.out
                                have l0 := T4.out.b0.lt
                                have l1 := T4.out.b1.lt
                                have l2 := S4.out.lt
                                go_wp2
                                go_ret
                                exact ⟨by rw [HE.out]; rfl, HBf.out⟩
                              | true =>
                                by_cases k3 : role = 11
                                · have z8 : (role == 11) = true := by simpa using k3
                                  have HE := Lib.hid (HXB.out (by unfold symBad; rw [if_neg k0, if_pos rfl, HZE.out, ← HYN.out, z8]; rfl))
                                  clear HXB HXG HB HY2
                                  clear k0 k3
                                  go_wp2_with fail
                                  with_reducible refine (HEm _).out.mono ?_
                                  rintro e w3 ⟨rfl, hB3⟩
                                  have T3 := Lib.hid (TA.out.below hB3)
                                  have S3 := Lib.hid (SA.out.below hB3 SA.out.lt)
                                  have HBf := Lib.hid T3.out.bl
                                  clear hB3
                                  obtain ⟨c0, c1, c2, c3, c4⟩ := cells5' T3.out.b0
                                  obtain ⟨p0, p1, p2, p3, p4, p5, p6⟩ := cells7g T3.out.b1
                                  obtain ⟨s0, s1, s2, s3, s4, s5⟩ := cells6 S3.out
                                  have l0 := T3.out.b0.lt
                                  have l1 := T3.out.b1.lt
                                  have l2 := S3.out.lt
                                  go_wp2_with fail
                                  with_reducible refine (HS1 _).out.mono ?_
                                  rintro e w4 ⟨rfl, hB4⟩
                                  have T4 := Lib.hid (T3.out.below hB4)
                                  have S4 := Lib.hid (S3.out.below hB4 S3.out.lt)
                                  have HBf := Lib.hid T4.out.bl
                                  clear hB4 c0 c1 c2 c3 c4 p0 p1 p2 p3 p4 p5 p6 s0 s1 s2 s3 s4 s5 l0 l1 l2
                                  obtain ⟨c0, c1, c2, c3, c4⟩ := cells5' T4.out.b0
                                  obtain ⟨p0, p1, p2, p3, p4, p5, p6⟩ := cells7g T4.out.b1
                                  obtain ⟨s0, s1, s2, s3, s4, s5⟩ := cells6 S4.out
                                  have l0 := T4.out.b0.lt
                                  have l1 := T4.out.b1.lt
                                  have l2 := S4.out.lt
                                  go_wp2
                                  go_ret
                                  exact ⟨by rw [HE.out]; rfl, HBf.out⟩
                                · have z8 : (role == 11) = false := by simpa using k3
                                  have HZ2 := Lib.hid (HXG.out (by unfold symBad; rw [if_neg k0, if_pos rfl, HZE.out, ← HYN.out, z8]; rfl))
                                  clear HXB HXG
                                  clear k0 k3
                                  go_wp2_with fail
                                  with_reducible refine (HEm _).out.mono ?_
                                  rintro e w3 ⟨rfl, hB3⟩
                                  have T3 := Lib.hid (TA.out.below hB3)
                                  have S3 := Lib.hid (SA.out.below hB3 SA.out.lt)
                                  have HBf := Lib.hid T3.out.bl
                                  clear hB3
                                  obtain ⟨c0, c1, c2, c3, c4⟩ := cells5' T3.out.b0
                                  obtain ⟨p0, p1, p2, p3, p4, p5, p6⟩ := cells7g T3.out.b1
                                  obtain ⟨s0, s1, s2, s3, s4, s5⟩ := cells6 S3.out
                                  have l0 := T3.out.b0.lt
                                  have l1 := T3.out.b1.lt
                                  have l2 := S3.out.lt
                                  go_wp2_with fail
                                  with_reducible refine (HS1 _).out.mono ?_
                                  rintro e w4 ⟨rfl, hB4⟩
                                  have T4 := Lib.hid (T3.out.below hB4)
                                  have S4 := Lib.hid (S3.out.below hB4 S3.out.lt)
                                  have HBf := Lib.hid T4.out.bl
                                  clear hB4 c0 c1 c2 c3 c4 p0 p1 p2 p3 p4 p5 p6 s0 s1 s2 s3 s4 s5 l0 l1 l2
                                  obtain ⟨c0, c1, c2, c3, c4⟩ := cells5' T4.out.b0
                                  obtain ⟨p0, p1, p2, p3, p4, p5, p6⟩ := cells7g T4.out.b1
                                  obtain ⟨s0, s1, s2, s3, s4, s5⟩ := cells6 S4.out
                                  have l0 := T4.out.b0.lt
                                  have l1 := T4.out.b1.lt
                                  have l2 := S4.out.lt
                                  go_wp2
                                  go_roundw
                                  case rel => exact ⟨k + 1, by go_num, by omega, HZ2, T4⟩
                                  case measure => simp [intOf]; omega
                          · have z9 : (sk == 1) = false := by simpa using k2
                            have z10 : (sk != 0) = true := by simpa using k0
                            have z11 : (sk != 1) = true := by simpa using k2
                            have HE := Lib.hid (HXB.out (by unfold symBad; rw [if_neg k0, if_neg k2]))
                            clear HXB HXG HB HY2
                            clear k0 k2
                            have HBf := Lib.hid TA.out.bl
                            go_wp2
                            go_ret
                            exact ⟨by rw [HE.out]; rfl, HBf.out⟩
                      · have HE := Lib.hid (HY2.out (fun i s hs => hS.out i s (by have := (List.getElem?_eq_some_iff.1 hs).1; have := HM.out; omega) hs))
                        obtain rfl : k = m := by omega
                        clear hS HB HY2
                        go_wp2
                        go_ret
                        exact ⟨by rw [HE.out]; rfl, T.out.bl⟩
                  | true =>
                    have HE : Hid (q = false) := Lib.hid (HF.out (by rw [HU.out]; simp []))
                    clear HF HB HY HU
                    go_enter Try.func32, Try.ntmps32
                    go_wp2_with fail
                    with_reducible refine HS0.out.mono ?_
                    rintro e w1 ⟨rfl, hB1⟩
                    have T := Lib.hid (T0.out.below hB1)
                    clear hB1 T0 HS0
                    obtain ⟨c0, c1, c2, c3, c4⟩ := cells5' T.out.b0
                    obtain ⟨p0, p1, p2, p3, p4, p5, p6⟩ := cells7g T.out.b1
                    have l0 := T.out.b0.lt
                    have l1 := T.out.b1.lt
                    go_wp2
                    go_ret
                    exact ⟨by rw [HE.out]; rfl, T.out.bl⟩
              | false =>
                have z1 : ¬ cons.toList = [] := by simpa using he
                by_cases hz : role = 0
                · have hz2 : (role == 0) = true := by simpa using hz
                  have hz3 : (role != 0) = false := by simpa using hz
                  have Hz := Lib.hid hz
                  clear hz
                  cases prefer with
                  | false =>
                    have HE0 : Hid (rfirstB _ _ = false) := Lib.hid (by rw [HU.out]; simp [h1, h2, h3, h4, h5, he, hz2])
                    have HY2 := Lib.hid (HY.out HE0.out)
                    clear HF HY HU HE0
                    go_enter Try.func32, Try.ntmps32
                    go_wp2_with fail
                    with_reducible refine HS0.out.mono ?_
                    rintro e w1 ⟨rfl, hB1⟩
                    have T := Lib.hid (T0.out.below hB1)
                    clear hB1 T0 HS0
                    obtain ⟨c0, c1, c2, c3, c4⟩ := cells5' T.out.b0
                    obtain ⟨p0, p1, p2, p3, p4, p5, p6⟩ := cells7g T.out.b1
                    have l0 := T.out.b0.lt
                    have l1 := T.out.b1.lt
                    go_wp2
                    go_loopw [5] (fun i wr => ∃ k : Nat, i = .int .i64 k ∧ k ≤ m ∧ Hid (∀ (i : Nat) (s : SymM), i < k → right[i]? = some s → symBad ns role s = false) ∧ Hid (TwoG w wr #[.slice g.sa ns g.sc, .slice g.pa g.prods.length g.pc, .int .i64 g.start, .slice g.fa g.forbid.length g.fc, .slice g.wa g.follow.length g.wc] 46 #[.int .i64 left, .slice ra m rc, .string cons, .int .i64 role, .bool false, .bool avoid, .int .i64 frm])) (fun i _ => m - (intOf i).toNat)
                    case atStart => exact ⟨0, rfl, Nat.zero_le _, Lib.hid (fun j s hj => by omega), T⟩
                    case round =>
                      clear T c0 c1 c2 c3 c4 p0 p1 p2 p3 p4 p5 p6 l0 l1
                      obtain ⟨k, rfl, hk, hS, T⟩ := hrel
                      obtain ⟨c0, c1, c2, c3, c4⟩ := cells5' T.out.b0
                      obtain ⟨p0, p1, p2, p3, p4, p5, p6⟩ := cells7g T.out.b1
                      have l0 := T.out.b0.lt
                      have l1 := T.out.b1.lt
                      by_cases hlt : k < m
                      · obtain ⟨s, hs⟩ : ∃ s, right[k]? = some s := ⟨_, List.getElem?_eq_getElem (by rw [← HM.out]; exact hlt)⟩
                        obtain ⟨b1, o1, e1, hb1, hc1, _⟩ := HX.out k s hs
                        obtain ⟨x0, x1, x2, x3, x4, x5⟩ := Sym_at (hc1.below T.out.bl hb1)
                        have hb1' := Nat.lt_of_lt_of_le hb1 T.out.bl.size
                        have HXB : Hid (symBad ns role s = true → q = false) := Lib.hid (HB.out k s hs)
                        have HXG : Hid (symBad ns role s = false → ∀ (i : Nat) (s : SymM), i < k + 1 → right[i]? = some s → symBad ns role s = false) := Lib.hid (fun h i y hi hy => by
                          by_cases e : i = k
                          · subst e; rw [hs] at hy; cases hy; exact h
                          · exact hS.out i y (by omega) hy)
                        have z1 : (k : Int) < (m : Int) := by omega
                        have z0 : (0 : Int) ≤ (k : Int) := by omega
                        rw [e1] at p1
                        clear hs hc1 hS e1
                        obtain ⟨sk, ss, so⟩ := s
                        dsimp only at *
                        obtain ⟨z, hz⟩ : ∃ z, z = (ss == 0#256) := ⟨_, rfl⟩
                        have HZE : Hid ((ss == 0#256) = z) := Lib.hid hz.symm
                        have HEm : ∀ W, Hid (Calls Try.prog 34 #[.agg #[.int .u64 (wdI ss 0), .int .u64 (wdI ss 1), .int .u64 (wdI ss 2), .int .u64 (wdI ss 3)]] W fun e w' => e = .returned (.bool z) ∧ Below W.heap.size W w') := fun W => Lib.hid (by rw [hz]; exact empty_any ss W)
                        have hA : Below wr.heap.size wr (wr.alloc (.cells #[.int .i64 sk, .int .u64 (wdI ss 0), .int .u64 (wdI ss 1), .int .u64 (wdI ss 2), .int .u64 (wdI ss 3), .int .i64 so] 68)) := (Below.refl _ wr).alloc (Nat.le_refl _) _
                        have TA := Lib.hid (T.out.below hA)
                        have SA := Lib.hid (Blk.new wr 68 #[.int .i64 sk, .int .u64 (wdI ss 0), .int .u64 (wdI ss 1), .int .u64 (wdI ss 2), .int .u64 (wdI ss 3), .int .i64 so])
                        clear hz hA T
                        by_cases k0 : sk = 0
                        · subst k0
                          cases z with
                          | true =>
                            have HE := Lib.hid (HXB.out (by unfold symBad; rw [if_pos rfl, HZE.out]; rfl))
                            clear HXB HXG HB HY2
                            go_wp2_with fail
                            with_reducible refine (HEm _).out.mono ?_
                            rintro e w3 ⟨rfl, hB3⟩
                            have T3 := Lib.hid (TA.out.below hB3)
                            have S3 := Lib.hid (SA.out.below hB3 SA.out.lt)
                            have HBf := Lib.hid T3.out.bl
                            clear hB3
                            obtain ⟨c0, c1, c2, c3, c4⟩ := cells5' T3.out.b0
                            obtain ⟨p0, p1, p2, p3, p4, p5, p6⟩ := cells7g T3.out.b1
                            obtain ⟨s0, s1, s2, s3, s4, s5⟩ := cells6 S3.out
                            have l0 := T3.out.b0.lt
                            have l1 := T3.out.b1.lt
                            have l2 := S3.out.lt
                            go_wp2
                            go_ret
                            exact ⟨by rw [HE.out]; rfl, HBf.out⟩
                          | false =>
                            by_cases k1 : so = 0
                            · subst k1
                              have HZ2 := Lib.hid (HXG.out (by unfold symBad; rw [if_pos rfl, HZE.out]; rfl))
                              clear HXB HXG
                              go_wp2_with fail
                              with_reducible refine (HEm _).out.mono ?_
                              rintro e w3 ⟨rfl, hB3⟩
                              have T3 := Lib.hid (TA.out.below hB3)
                              have S3 := Lib.hid (SA.out.below hB3 SA.out.lt)
                              have HBf := Lib.hid T3.out.bl
                              clear hB3
                              obtain ⟨c0, c1, c2, c3, c4⟩ := cells5' T3.out.b0
                              obtain ⟨p0, p1, p2, p3, p4, p5, p6⟩ := cells7g T3.out.b1
                              obtain ⟨s0, s1, s2, s3, s4, s5⟩ := cells6 S3.out
                              have l0 := T3.out.b0.lt
                              have l1 := T3.out.b1.lt
                              have l2 := S3.out.lt
                              go_wp2
                              go_roundw
                              case rel => exact ⟨k + 1, by go_num, by omega, HZ2, T3⟩
                              case measure => simp [intOf]; omega
                            · have z5 : (so != 0) = true := by simpa using k1
                              have z6 : (so == 0) = false := by simpa using k1
                              have HE := Lib.hid (HXB.out (by unfold symBad; rw [if_pos rfl, HZE.out, z6]; rfl))
                              clear HXB HXG HB HY2
                              clear k1
                              go_wp2_with fail
                              with_reducible refine (HEm _).out.mono ?_
                              rintro e w3 ⟨rfl, hB3⟩
                              have T3 := Lib.hid (TA.out.below hB3)
                              have S3 := Lib.hid (SA.out.below hB3 SA.out.lt)
                              have HBf := Lib.hid T3.out.bl
                              clear hB3
                              obtain ⟨c0, c1, c2, c3, c4⟩ := cells5' T3.out.b0
                              obtain ⟨p0, p1, p2, p3, p4, p5, p6⟩ := cells7g T3.out.b1
                              obtain ⟨s0, s1, s2, s3, s4, s5⟩ := cells6 S3.out
                              have l0 := T3.out.b0.lt
                              have l1 := T3.out.b1.lt
                              have l2 := S3.out.lt
                              go_wp2
                              go_ret
                              exact ⟨by rw [HE.out]; rfl, HBf.out⟩
                        · have z7 : (sk == 0) = false := by simpa using k0
                          by_cases k2 : sk = 1
                          · subst k2
                            cases z with
                            | false =>
                              have HE := Lib.hid (HXB.out (by unfold symBad; rw [if_neg k0, if_pos rfl, HZE.out]; rfl))
                              clear HXB HXG HB HY2
                              clear k0
                              go_wp2_with fail
                              with_reducible refine (HEm _).out.mono ?_
                              rintro e w3 ⟨rfl, hB3⟩
                              have T3 := Lib.hid (TA.out.below hB3)
                              have S3 := Lib.hid (SA.out.below hB3 SA.out.lt)
                              have HBf := Lib.hid T3.out.bl
                              clear hB3
                              obtain ⟨c0, c1, c2, c3, c4⟩ := cells5' T3.out.b0
                              obtain ⟨p0, p1, p2, p3, p4, p5, p6⟩ := cells7g T3.out.b1
                              obtain ⟨s0, s1, s2, s3, s4, s5⟩ := cells6 S3.out
                              have l0 := T3.out.b0.lt
                              have l1 := T3.out.b1.lt
                              have l2 := S3.out.lt
                              go_wp2
                              go_ret
                              exact ⟨by rw [HE.out]; rfl, HBf.out⟩
                            | true =>
                              obtain ⟨y, hy⟩ : ∃ y, y = numB so ns := ⟨_, rfl⟩
                              have HYN := Lib.hid hy
                              have HS1 : ∀ W, Hid (Calls Try.prog 31 #[.agg #[.slice g.sa ns g.sc, .slice g.pa g.prods.length g.pc, .int .i64 g.start, .slice g.fa g.forbid.length g.fc, .slice g.wa g.follow.length g.wc], .int .i64 so] W fun e w' => e = .returned (.bool y) ∧ Below W.heap.size W w') := fun W => Lib.hid (by rw [hy]; exact (HSo so W).out)
                              clear hy HSo
                              cases y with
                              | false =>
                                have HE := Lib.hid (HXB.out (by unfold symBad; rw [if_neg k0, if_pos rfl, HZE.out, ← HYN.out]; rfl))
                                clear HXB HXG HB HY2
                                clear k0
                                go_wp2_with fail
                                with_reducible refine (HEm _).out.mono ?_
                                rintro e w3 ⟨rfl, hB3⟩
                                have T3 := Lib.hid (TA.out.below hB3)
                                have S3 := Lib.hid (SA.out.below hB3 SA.out.lt)
                                have HBf := Lib.hid T3.out.bl
                                clear hB3
                                obtain ⟨c0, c1, c2, c3, c4⟩ := cells5' T3.out.b0
                                obtain ⟨p0, p1, p2, p3, p4, p5, p6⟩ := cells7g T3.out.b1
                                obtain ⟨s0, s1, s2, s3, s4, s5⟩ := cells6 S3.out
                                have l0 := T3.out.b0.lt
                                have l1 := T3.out.b1.lt
                                have l2 := S3.out.lt
                                go_wp2_with fail
                                with_reducible refine (HS1 _).out.mono ?_
                                rintro e w4 ⟨rfl, hB4⟩
                                have T4 := Lib.hid (T3.out.below hB4)
                                have S4 := Lib.hid (S3.out.below hB4 S3.out.lt)
                                have HBf := Lib.hid T4.out.bl
                                clear hB4 c0 c1 c2 c3 c4 p0 p1 p2 p3 p4 p5 p6 s0 s1 s2 s3 s4 s5 l0 l1 l2
                                obtain ⟨c0, c1, c2, c3, c4⟩ := cells5' T4.out.b0
                                obtain ⟨p0, p1, p2, p3, p4, p5, p6⟩ := cells7g T4.out.b1
                                obtain ⟨s0, s1, s2, s3, s4, s5⟩ := cells6 S4.out
                                have l0 := T4.out.b0.lt
                                have l1 := T4.out.b1.lt
                                have l2 := S4.out.lt
                                go_wp2
                                go_ret
                                exact ⟨by rw [HE.out]; rfl, HBf.out⟩
                              | true =>
                                by_cases k3 : role = 11
                                · have z8 : (role == 11) = true := by simpa using k3
                                  have HE := Lib.hid (HXB.out (by unfold symBad; rw [if_neg k0, if_pos rfl, HZE.out, ← HYN.out, z8]; rfl))
                                  clear HXB HXG HB HY2
                                  clear k0 k3
                                  go_wp2_with fail
                                  with_reducible refine (HEm _).out.mono ?_
                                  rintro e w3 ⟨rfl, hB3⟩
                                  have T3 := Lib.hid (TA.out.below hB3)
                                  have S3 := Lib.hid (SA.out.below hB3 SA.out.lt)
                                  have HBf := Lib.hid T3.out.bl
                                  clear hB3
                                  obtain ⟨c0, c1, c2, c3, c4⟩ := cells5' T3.out.b0
                                  obtain ⟨p0, p1, p2, p3, p4, p5, p6⟩ := cells7g T3.out.b1
                                  obtain ⟨s0, s1, s2, s3, s4, s5⟩ := cells6 S3.out
                                  have l0 := T3.out.b0.lt
                                  have l1 := T3.out.b1.lt
                                  have l2 := S3.out.lt
                                  go_wp2_with fail
                                  with_reducible refine (HS1 _).out.mono ?_
                                  rintro e w4 ⟨rfl, hB4⟩
                                  have T4 := Lib.hid (T3.out.below hB4)
                                  have S4 := Lib.hid (S3.out.below hB4 S3.out.lt)
                                  have HBf := Lib.hid T4.out.bl
                                  clear hB4 c0 c1 c2 c3 c4 p0 p1 p2 p3 p4 p5 p6 s0 s1 s2 s3 s4 s5 l0 l1 l2
                                  obtain ⟨c0, c1, c2, c3, c4⟩ := cells5' T4.out.b0
                                  obtain ⟨p0, p1, p2, p3, p4, p5, p6⟩ := cells7g T4.out.b1
                                  obtain ⟨s0, s1, s2, s3, s4, s5⟩ := cells6 S4.out
                                  have l0 := T4.out.b0.lt
                                  have l1 := T4.out.b1.lt
                                  have l2 := S4.out.lt
                                  go_wp2
                                  go_ret
                                  exact ⟨by rw [HE.out]; rfl, HBf.out⟩
                                · have z8 : (role == 11) = false := by simpa using k3
                                  have HZ2 := Lib.hid (HXG.out (by unfold symBad; rw [if_neg k0, if_pos rfl, HZE.out, ← HYN.out, z8]; rfl))
                                  clear HXB HXG
                                  clear k0 k3
                                  go_wp2_with fail
                                  with_reducible refine (HEm _).out.mono ?_
                                  rintro e w3 ⟨rfl, hB3⟩
                                  have T3 := Lib.hid (TA.out.below hB3)
                                  have S3 := Lib.hid (SA.out.below hB3 SA.out.lt)
                                  have HBf := Lib.hid T3.out.bl
                                  clear hB3
                                  obtain ⟨c0, c1, c2, c3, c4⟩ := cells5' T3.out.b0
                                  obtain ⟨p0, p1, p2, p3, p4, p5, p6⟩ := cells7g T3.out.b1
                                  obtain ⟨s0, s1, s2, s3, s4, s5⟩ := cells6 S3.out
                                  have l0 := T3.out.b0.lt
                                  have l1 := T3.out.b1.lt
                                  have l2 := S3.out.lt
                                  go_wp2_with fail
                                  with_reducible refine (HS1 _).out.mono ?_
                                  rintro e w4 ⟨rfl, hB4⟩
                                  have T4 := Lib.hid (T3.out.below hB4)
                                  have S4 := Lib.hid (S3.out.below hB4 S3.out.lt)
                                  have HBf := Lib.hid T4.out.bl
                                  clear hB4 c0 c1 c2 c3 c4 p0 p1 p2 p3 p4 p5 p6 s0 s1 s2 s3 s4 s5 l0 l1 l2
                                  obtain ⟨c0, c1, c2, c3, c4⟩ := cells5' T4.out.b0
                                  obtain ⟨p0, p1, p2, p3, p4, p5, p6⟩ := cells7g T4.out.b1
                                  obtain ⟨s0, s1, s2, s3, s4, s5⟩ := cells6 S4.out
                                  have l0 := T4.out.b0.lt
                                  have l1 := T4.out.b1.lt
                                  have l2 := S4.out.lt
                                  go_wp2
                                  go_roundw
                                  case rel => exact ⟨k + 1, by go_num, by omega, HZ2, T4⟩
                                  case measure => simp [intOf]; omega
                          · have z9 : (sk == 1) = false := by simpa using k2
                            have z10 : (sk != 0) = true := by simpa using k0
                            have z11 : (sk != 1) = true := by simpa using k2
                            have HE := Lib.hid (HXB.out (by unfold symBad; rw [if_neg k0, if_neg k2]))
                            clear HXB HXG HB HY2
                            clear k0 k2
                            have HBf := Lib.hid TA.out.bl
                            go_wp2
                            go_ret
                            exact ⟨by rw [HE.out]; rfl, HBf.out⟩
                      · have HE := Lib.hid (HY2.out (fun i s hs => hS.out i s (by have := (List.getElem?_eq_some_iff.1 hs).1; have := HM.out; omega) hs))
                        obtain rfl : k = m := by omega
                        clear hS HB HY2
                        go_wp2
                        go_ret
                        exact ⟨by rw [HE.out]; rfl, T.out.bl⟩
                  | true =>
                    cases avoid with
                    | false =>
                      have HE0 : Hid (rfirstB _ _ = false) := Lib.hid (by rw [HU.out]; simp [h1, h2, h3, h4, h5, he, hz2])
                      have HY2 := Lib.hid (HY.out HE0.out)
                      clear HF HY HU HE0
                      go_enter Try.func32, Try.ntmps32
                      go_wp2_with fail
                      with_reducible refine HS0.out.mono ?_
                      rintro e w1 ⟨rfl, hB1⟩
                      have T := Lib.hid (T0.out.below hB1)
                      clear hB1 T0 HS0
                      obtain ⟨c0, c1, c2, c3, c4⟩ := cells5' T.out.b0
                      obtain ⟨p0, p1, p2, p3, p4, p5, p6⟩ := cells7g T.out.b1
                      have l0 := T.out.b0.lt
                      have l1 := T.out.b1.lt
                      go_wp2
                      go_loopw [5] (fun i wr => ∃ k : Nat, i = .int .i64 k ∧ k ≤ m ∧ Hid (∀ (i : Nat) (s : SymM), i < k → right[i]? = some s → symBad ns role s = false) ∧ Hid (TwoG w wr #[.slice g.sa ns g.sc, .slice g.pa g.prods.length g.pc, .int .i64 g.start, .slice g.fa g.forbid.length g.fc, .slice g.wa g.follow.length g.wc] 46 #[.int .i64 left, .slice ra m rc, .string cons, .int .i64 role, .bool true, .bool false, .int .i64 frm])) (fun i _ => m - (intOf i).toNat)
                      case atStart => exact ⟨0, rfl, Nat.zero_le _, Lib.hid (fun j s hj => by omega), T⟩
                      case round =>
                        clear T c0 c1 c2 c3 c4 p0 p1 p2 p3 p4 p5 p6 l0 l1
                        obtain ⟨k, rfl, hk, hS, T⟩ := hrel
                        obtain ⟨c0, c1, c2, c3, c4⟩ := cells5' T.out.b0
                        obtain ⟨p0, p1, p2, p3, p4, p5, p6⟩ := cells7g T.out.b1
                        have l0 := T.out.b0.lt
                        have l1 := T.out.b1.lt
                        by_cases hlt : k < m
                        · obtain ⟨s, hs⟩ : ∃ s, right[k]? = some s := ⟨_, List.getElem?_eq_getElem (by rw [← HM.out]; exact hlt)⟩
                          obtain ⟨b1, o1, e1, hb1, hc1, _⟩ := HX.out k s hs
                          obtain ⟨x0, x1, x2, x3, x4, x5⟩ := Sym_at (hc1.below T.out.bl hb1)
                          have hb1' := Nat.lt_of_lt_of_le hb1 T.out.bl.size
                          have HXB : Hid (symBad ns role s = true → q = false) := Lib.hid (HB.out k s hs)
                          have HXG : Hid (symBad ns role s = false → ∀ (i : Nat) (s : SymM), i < k + 1 → right[i]? = some s → symBad ns role s = false) := Lib.hid (fun h i y hi hy => by
                            by_cases e : i = k
                            · subst e; rw [hs] at hy; cases hy; exact h
                            · exact hS.out i y (by omega) hy)
                          have z1 : (k : Int) < (m : Int) := by omega
                          have z0 : (0 : Int) ≤ (k : Int) := by omega
                          rw [e1] at p1
                          clear hs hc1 hS e1
                          obtain ⟨sk, ss, so⟩ := s
                          dsimp only at *
                          obtain ⟨z, hz⟩ : ∃ z, z = (ss == 0#256) := ⟨_, rfl⟩
                          have HZE : Hid ((ss == 0#256) = z) := Lib.hid hz.symm
                          have HEm : ∀ W, Hid (Calls Try.prog 34 #[.agg #[.int .u64 (wdI ss 0), .int .u64 (wdI ss 1), .int .u64 (wdI ss 2), .int .u64 (wdI ss 3)]] W fun e w' => e = .returned (.bool z) ∧ Below W.heap.size W w') := fun W => Lib.hid (by rw [hz]; exact empty_any ss W)
                          have hA : Below wr.heap.size wr (wr.alloc (.cells #[.int .i64 sk, .int .u64 (wdI ss 0), .int .u64 (wdI ss 1), .int .u64 (wdI ss 2), .int .u64 (wdI ss 3), .int .i64 so] 68)) := (Below.refl _ wr).alloc (Nat.le_refl _) _
                          have TA := Lib.hid (T.out.below hA)
                          have SA := Lib.hid (Blk.new wr 68 #[.int .i64 sk, .int .u64 (wdI ss 0), .int .u64 (wdI ss 1), .int .u64 (wdI ss 2), .int .u64 (wdI ss 3), .int .i64 so])
                          clear hz hA T
                          by_cases k0 : sk = 0
                          · subst k0
                            cases z with
                            | true =>
                              have HE := Lib.hid (HXB.out (by unfold symBad; rw [if_pos rfl, HZE.out]; rfl))
                              clear HXB HXG HB HY2
                              go_wp2_with fail
                              with_reducible refine (HEm _).out.mono ?_
                              rintro e w3 ⟨rfl, hB3⟩
                              have T3 := Lib.hid (TA.out.below hB3)
                              have S3 := Lib.hid (SA.out.below hB3 SA.out.lt)
                              have HBf := Lib.hid T3.out.bl
                              clear hB3
                              obtain ⟨c0, c1, c2, c3, c4⟩ := cells5' T3.out.b0
                              obtain ⟨p0, p1, p2, p3, p4, p5, p6⟩ := cells7g T3.out.b1
                              obtain ⟨s0, s1, s2, s3, s4, s5⟩ := cells6 S3.out
                              have l0 := T3.out.b0.lt
                              have l1 := T3.out.b1.lt
                              have l2 := S3.out.lt
                              go_wp2
                              go_ret
                              exact ⟨by rw [HE.out]; rfl, HBf.out⟩
                            | false =>
                              by_cases k1 : so = 0
                              · subst k1
                                have HZ2 := Lib.hid (HXG.out (by unfold symBad; rw [if_pos rfl, HZE.out]; rfl))
                                clear HXB HXG
                                go_wp2_with fail
                                with_reducible refine (HEm _).out.mono ?_
                                rintro e w3 ⟨rfl, hB3⟩
                                have T3 := Lib.hid (TA.out.below hB3)
                                have S3 := Lib.hid (SA.out.below hB3 SA.out.lt)
                                have HBf := Lib.hid T3.out.bl
                                clear hB3
                                obtain ⟨c0, c1, c2, c3, c4⟩ := cells5' T3.out.b0
                                obtain ⟨p0, p1, p2, p3, p4, p5, p6⟩ := cells7g T3.out.b1
                                obtain ⟨s0, s1, s2, s3, s4, s5⟩ := cells6 S3.out
                                have l0 := T3.out.b0.lt
                                have l1 := T3.out.b1.lt
                                have l2 := S3.out.lt
                                go_wp2
                                go_roundw
                                case rel => exact ⟨k + 1, by go_num, by omega, HZ2, T3⟩
                                case measure => simp [intOf]; omega
                              · have z5 : (so != 0) = true := by simpa using k1
                                have z6 : (so == 0) = false := by simpa using k1
                                have HE := Lib.hid (HXB.out (by unfold symBad; rw [if_pos rfl, HZE.out, z6]; rfl))
                                clear HXB HXG HB HY2
                                clear k1
                                go_wp2_with fail
                                with_reducible refine (HEm _).out.mono ?_
                                rintro e w3 ⟨rfl, hB3⟩
                                have T3 := Lib.hid (TA.out.below hB3)
                                have S3 := Lib.hid (SA.out.below hB3 SA.out.lt)
                                have HBf := Lib.hid T3.out.bl
                                clear hB3
                                obtain ⟨c0, c1, c2, c3, c4⟩ := cells5' T3.out.b0
                                obtain ⟨p0, p1, p2, p3, p4, p5, p6⟩ := cells7g T3.out.b1
                                obtain ⟨s0, s1, s2, s3, s4, s5⟩ := cells6 S3.out
                                have l0 := T3.out.b0.lt
                                have l1 := T3.out.b1.lt
                                have l2 := S3.out.lt
                                go_wp2
                                go_ret
                                exact ⟨by rw [HE.out]; rfl, HBf.out⟩
                          · have z7 : (sk == 0) = false := by simpa using k0
                            by_cases k2 : sk = 1
                            · subst k2
                              cases z with
                              | false =>
                                have HE := Lib.hid (HXB.out (by unfold symBad; rw [if_neg k0, if_pos rfl, HZE.out]; rfl))
                                clear HXB HXG HB HY2
                                clear k0
                                go_wp2_with fail
                                with_reducible refine (HEm _).out.mono ?_
                                rintro e w3 ⟨rfl, hB3⟩
                                have T3 := Lib.hid (TA.out.below hB3)
                                have S3 := Lib.hid (SA.out.below hB3 SA.out.lt)
                                have HBf := Lib.hid T3.out.bl
                                clear hB3
                                obtain ⟨c0, c1, c2, c3, c4⟩ := cells5' T3.out.b0
                                obtain ⟨p0, p1, p2, p3, p4, p5, p6⟩ := cells7g T3.out.b1
                                obtain ⟨s0, s1, s2, s3, s4, s5⟩ := cells6 S3.out
                                have l0 := T3.out.b0.lt
                                have l1 := T3.out.b1.lt
                                have l2 := S3.out.lt
                                go_wp2
                                go_ret
                                exact ⟨by rw [HE.out]; rfl, HBf.out⟩
                              | true =>
                                obtain ⟨y, hy⟩ : ∃ y, y = numB so ns := ⟨_, rfl⟩
                                have HYN := Lib.hid hy
                                have HS1 : ∀ W, Hid (Calls Try.prog 31 #[.agg #[.slice g.sa ns g.sc, .slice g.pa g.prods.length g.pc, .int .i64 g.start, .slice g.fa g.forbid.length g.fc, .slice g.wa g.follow.length g.wc], .int .i64 so] W fun e w' => e = .returned (.bool y) ∧ Below W.heap.size W w') := fun W => Lib.hid (by rw [hy]; exact (HSo so W).out)
                                clear hy HSo
                                cases y with
                                | false =>
                                  have HE := Lib.hid (HXB.out (by unfold symBad; rw [if_neg k0, if_pos rfl, HZE.out, ← HYN.out]; rfl))
                                  clear HXB HXG HB HY2
                                  clear k0
                                  go_wp2_with fail
                                  with_reducible refine (HEm _).out.mono ?_
                                  rintro e w3 ⟨rfl, hB3⟩
                                  have T3 := Lib.hid (TA.out.below hB3)
                                  have S3 := Lib.hid (SA.out.below hB3 SA.out.lt)
                                  have HBf := Lib.hid T3.out.bl
                                  clear hB3
                                  obtain ⟨c0, c1, c2, c3, c4⟩ := cells5' T3.out.b0
                                  obtain ⟨p0, p1, p2, p3, p4, p5, p6⟩ := cells7g T3.out.b1
                                  obtain ⟨s0, s1, s2, s3, s4, s5⟩ := cells6 S3.out
                                  have l0 := T3.out.b0.lt
                                  have l1 := T3.out.b1.lt
                                  have l2 := S3.out.lt
                                  go_wp2_with fail
                                  with_reducible refine (HS1 _).out.mono ?_
                                  rintro e w4 ⟨rfl, hB4⟩
                                  have T4 := Lib.hid (T3.out.below hB4)
                                  have S4 := Lib.hid (S3.out.below hB4 S3.out.lt)
                                  have HBf := Lib.hid T4.out.bl
                                  clear hB4 c0 c1 c2 c3 c4 p0 p1 p2 p3 p4 p5 p6 s0 s1 s2 s3 s4 s5 l0 l1 l2
                                  obtain ⟨c0, c1, c2, c3, c4⟩ := cells5' T4.out.b0
                                  obtain ⟨p0, p1, p2, p3, p4, p5, p6⟩ := cells7g T4.out.b1
                                  obtain ⟨s0, s1, s2, s3, s4, s5⟩ := cells6 S4.out
                                  have l0 := T4.out.b0.lt
                                  have l1 := T4.out.b1.lt
                                  have l2 := S4.out.lt
                                  go_wp2
                                  go_ret
                                  exact ⟨by rw [HE.out]; rfl, HBf.out⟩
                                | true =>
                                  by_cases k3 : role = 11
                                  · have z8 : (role == 11) = true := by simpa using k3
                                    have HE := Lib.hid (HXB.out (by unfold symBad; rw [if_neg k0, if_pos rfl, HZE.out, ← HYN.out, z8]; rfl))
                                    clear HXB HXG HB HY2
                                    clear k0 k3
                                    go_wp2_with fail
                                    with_reducible refine (HEm _).out.mono ?_
                                    rintro e w3 ⟨rfl, hB3⟩
                                    have T3 := Lib.hid (TA.out.below hB3)
                                    have S3 := Lib.hid (SA.out.below hB3 SA.out.lt)
                                    have HBf := Lib.hid T3.out.bl
                                    clear hB3
                                    obtain ⟨c0, c1, c2, c3, c4⟩ := cells5' T3.out.b0
                                    obtain ⟨p0, p1, p2, p3, p4, p5, p6⟩ := cells7g T3.out.b1
                                    obtain ⟨s0, s1, s2, s3, s4, s5⟩ := cells6 S3.out
                                    have l0 := T3.out.b0.lt
                                    have l1 := T3.out.b1.lt
                                    have l2 := S3.out.lt
                                    go_wp2_with fail
                                    with_reducible refine (HS1 _).out.mono ?_
                                    rintro e w4 ⟨rfl, hB4⟩
                                    have T4 := Lib.hid (T3.out.below hB4)
                                    have S4 := Lib.hid (S3.out.below hB4 S3.out.lt)
                                    have HBf := Lib.hid T4.out.bl
                                    clear hB4 c0 c1 c2 c3 c4 p0 p1 p2 p3 p4 p5 p6 s0 s1 s2 s3 s4 s5 l0 l1 l2
                                    obtain ⟨c0, c1, c2, c3, c4⟩ := cells5' T4.out.b0
                                    obtain ⟨p0, p1, p2, p3, p4, p5, p6⟩ := cells7g T4.out.b1
                                    obtain ⟨s0, s1, s2, s3, s4, s5⟩ := cells6 S4.out
                                    have l0 := T4.out.b0.lt
                                    have l1 := T4.out.b1.lt
                                    have l2 := S4.out.lt
                                    go_wp2
                                    go_ret
                                    exact ⟨by rw [HE.out]; rfl, HBf.out⟩
                                  · have z8 : (role == 11) = false := by simpa using k3
                                    have HZ2 := Lib.hid (HXG.out (by unfold symBad; rw [if_neg k0, if_pos rfl, HZE.out, ← HYN.out, z8]; rfl))
                                    clear HXB HXG
                                    clear k0 k3
                                    go_wp2_with fail
                                    with_reducible refine (HEm _).out.mono ?_
                                    rintro e w3 ⟨rfl, hB3⟩
                                    have T3 := Lib.hid (TA.out.below hB3)
                                    have S3 := Lib.hid (SA.out.below hB3 SA.out.lt)
                                    have HBf := Lib.hid T3.out.bl
                                    clear hB3
                                    obtain ⟨c0, c1, c2, c3, c4⟩ := cells5' T3.out.b0
                                    obtain ⟨p0, p1, p2, p3, p4, p5, p6⟩ := cells7g T3.out.b1
                                    obtain ⟨s0, s1, s2, s3, s4, s5⟩ := cells6 S3.out
                                    have l0 := T3.out.b0.lt
                                    have l1 := T3.out.b1.lt
                                    have l2 := S3.out.lt
                                    go_wp2_with fail
                                    with_reducible refine (HS1 _).out.mono ?_
                                    rintro e w4 ⟨rfl, hB4⟩
                                    have T4 := Lib.hid (T3.out.below hB4)
                                    have S4 := Lib.hid (S3.out.below hB4 S3.out.lt)
                                    have HBf := Lib.hid T4.out.bl
                                    clear hB4 c0 c1 c2 c3 c4 p0 p1 p2 p3 p4 p5 p6 s0 s1 s2 s3 s4 s5 l0 l1 l2
                                    obtain ⟨c0, c1, c2, c3, c4⟩ := cells5' T4.out.b0
                                    obtain ⟨p0, p1, p2, p3, p4, p5, p6⟩ := cells7g T4.out.b1
                                    obtain ⟨s0, s1, s2, s3, s4, s5⟩ := cells6 S4.out
                                    have l0 := T4.out.b0.lt
                                    have l1 := T4.out.b1.lt
                                    have l2 := S4.out.lt
                                    go_wp2
                                    go_roundw
                                    case rel => exact ⟨k + 1, by go_num, by omega, HZ2, T4⟩
                                    case measure => simp [intOf]; omega
                            · have z9 : (sk == 1) = false := by simpa using k2
                              have z10 : (sk != 0) = true := by simpa using k0
                              have z11 : (sk != 1) = true := by simpa using k2
                              have HE := Lib.hid (HXB.out (by unfold symBad; rw [if_neg k0, if_neg k2]))
                              clear HXB HXG HB HY2
                              clear k0 k2
                              have HBf := Lib.hid TA.out.bl
                              go_wp2
                              go_ret
                              exact ⟨by rw [HE.out]; rfl, HBf.out⟩
                        · have HE := Lib.hid (HY2.out (fun i s hs => hS.out i s (by have := (List.getElem?_eq_some_iff.1 hs).1; have := HM.out; omega) hs))
                          obtain rfl : k = m := by omega
                          clear hS HB HY2
                          go_wp2
                          go_ret
                          exact ⟨by rw [HE.out]; rfl, T.out.bl⟩
                    | true =>
                      have HE : Hid (q = false) := Lib.hid (HF.out (by rw [HU.out]; simp []))
                      clear HF HB HY HU
                      go_enter Try.func32, Try.ntmps32
                      go_wp2_with fail
                      with_reducible refine HS0.out.mono ?_
                      rintro e w1 ⟨rfl, hB1⟩
                      have T := Lib.hid (T0.out.below hB1)
                      clear hB1 T0 HS0
                      obtain ⟨c0, c1, c2, c3, c4⟩ := cells5' T.out.b0
                      obtain ⟨p0, p1, p2, p3, p4, p5, p6⟩ := cells7g T.out.b1
                      have l0 := T.out.b0.lt
                      have l1 := T.out.b1.lt
                      go_wp2
                      go_ret
                      exact ⟨by rw [HE.out]; rfl, T.out.bl⟩
                · have hz2 : (role == 0) = false := by simpa using hz
                  have hz3 : (role != 0) = true := by simpa using hz
                  have HE : Hid (q = false) := Lib.hid (HF.out (by rw [HU.out]; simp [he, hz2]))
                  clear HF HB HY HU
                  clear hz
                  go_enter Try.func32, Try.ntmps32
                  go_wp2_with fail
                  with_reducible refine HS0.out.mono ?_
                  rintro e w1 ⟨rfl, hB1⟩
                  have T := Lib.hid (T0.out.below hB1)
                  clear hB1 T0 HS0
                  obtain ⟨c0, c1, c2, c3, c4⟩ := cells5' T.out.b0
                  obtain ⟨p0, p1, p2, p3, p4, p5, p6⟩ := cells7g T.out.b1
                  have l0 := T.out.b0.lt
                  have l1 := T.out.b1.lt
                  go_wp2
                  go_ret
                  exact ⟨by rw [HE.out]; rfl, T.out.bl⟩
end Go.Proofs.Ytiihdbchchnncaa
end
section
namespace Go.Proofs.Ytiihdbchchnncaa
open Go Go.RowKit

theorem cells3g {W : World} {B t : Nat} {a b c : Value} (h : Blk W B t #[a, b, c]) : W.cell? ⟨B, 0, none⟩ = some a ∧ W.cell? ⟨B, 1, none⟩ = some b ∧ W.cell? ⟨B, 2, none⟩ = some c := ⟨h.cell 0, h.cell 1, h.cell 2⟩

set_option maxRecDepth 100000 in
set_option maxHeartbeats 4000000 in
theorem rforbid_any (g : GramM) (f : ForM) (w : World) (hg : GIn w g) (hn : g.prods.length ≤ 1048576) (hr : ∀ x, x ∈ g.prods → x.right.length ≤ 1048576) (hf : FitF f) : Calls Try.prog 33 #[gramV g, forV f] w fun e w' => e = .returned (.bool (forbidB g f)) ∧ Below w.heap.size w w' := by
  have T := Lib.hid (TwoG.start w (gramC g) 78 (forC f))
  have hB := T.out.bl
  have HBf := Lib.hid hB
  have HG := Lib.hid hg
  have HR := Lib.hid hr
  obtain ⟨q, hq⟩ : ∃ q, q = forbidB g f := ⟨_, rfl⟩
  rw [← hq]
  unfold forbidB at hq
  obtain ⟨pa, at_, ch⟩ := f
  obtain ⟨_, ⟨hat0, hat1⟩, _⟩ := hf
  dsimp only at *
  have HQ := Lib.hid hq
  clear hq hg hr hB
  obtain ⟨n, hn'⟩ : ∃ n : Nat, n = g.prods.length := ⟨_, rfl⟩
  have HN := Lib.hid hn'
  rw [← hn'] at hn
  unfold gramV gramC forV forC at *
  dsimp only at *
  rw [← hn'] at T HBf ⊢
  clear hn'
  by_cases h1 : pa < 0
  · have HE : Hid (q = false) := Lib.hid (by rw [HQ.out]; unfold numB; rw [decide_eq_false (by omega : ¬ 0 ≤ pa)]; simp only [Bool.false_and])
    clear HQ
    go_enter Try.func33, Try.ntmps33
    go_wp2
    go_ret
    exact ⟨by rw [HE.out]; rfl, HBf.out⟩
  · have d1 : decide (pa < 0) = false := by simpa using h1
    by_cases h2 : (n : Int) ≤ pa
    · have HE : Hid (q = false) := Lib.hid (by rw [HQ.out, ← HN.out]; unfold numB; rw [decide_eq_false (by omega : ¬ pa < (n : Int))]; simp only [Bool.false_and, Bool.and_false])
      have d2 : decide ((n : Int) ≤ pa) = true := by simpa using h2
      clear HQ h1 h2
      go_enter Try.func33, Try.ntmps33
      go_wp2
      go_ret
      exact ⟨by rw [HE.out]; rfl, HBf.out⟩
    · have d2 : decide ((n : Int) ≤ pa) = false := by simpa using h2
      by_cases h3 : ch < 0
      · have HE : Hid (q = false) := Lib.hid (by rw [HQ.out]; unfold numB; rw [decide_eq_false (by omega : ¬ 0 ≤ ch)]; simp only [Bool.false_and, Bool.and_false])
        clear HQ h1 h2
        go_enter Try.func33, Try.ntmps33
        go_wp2
        go_ret
        exact ⟨by rw [HE.out]; rfl, HBf.out⟩
      · have d3 : decide (ch < 0) = false := by simpa using h3
        by_cases h4 : (n : Int) ≤ ch
        · have HE : Hid (q = false) := Lib.hid (by rw [HQ.out, ← HN.out]; unfold numB; rw [decide_eq_false (by omega : ¬ ch < (n : Int))]; simp only [Bool.false_and, Bool.and_false])
          have d4 : decide ((n : Int) ≤ ch) = true := by simpa using h4
          clear HQ h1 h2 h3 h4
          go_enter Try.func33, Try.ntmps33
          go_wp2
          go_ret
          exact ⟨by rw [HE.out]; rfl, HBf.out⟩
        · have d4 : decide ((n : Int) ≤ ch) = false := by simpa using h4
          obtain ⟨i, rfl⟩ : ∃ i : Nat, pa = i := ⟨pa.toNat, by omega⟩
          obtain ⟨j, rfl⟩ : ∃ i : Nat, ch = i := ⟨ch.toNat, by omega⟩
          have hi : i < n := by omega
          have hj : j < n := by omega
          obtain ⟨P, hP⟩ : ∃ x, g.prods[i]? = some x := ⟨_, List.getElem?_eq_getElem (by rw [← HN.out]; exact hi)⟩
          obtain ⟨C, hC⟩ : ∃ x, g.prods[j]? = some x := ⟨_, List.getElem?_eq_getElem (by rw [← HN.out]; exact hj)⟩
          have HQ2 : Hid (q = standB P at_ C) := Lib.hid (by rw [HQ.out, ← HN.out, Int.toNat_natCast, Int.toNat_natCast, hP, hC]; unfold numB; simp [hi, hj])
          obtain ⟨b1, o1, e1, hb1, hc1, hi1⟩ := HG.out.prods i P hP
          obtain ⟨b2, o2, e2, hb2, hc2, _⟩ := HG.out.prods j C hC
          obtain rfl : b1 = b2 := by rw [e1] at e2; simpa using congrArg (fun a => a.map (·.block)) e2
          obtain rfl : o1 = o2 := by rw [e1] at e2; simpa using congrArg (fun a => a.map (·.off)) e2
          have hPl := HR.out P (List.mem_of_getElem? hP)
          obtain ⟨x0, x1, _, x3, _, _, _⟩ := Prod_at (hc1.below T.out.bl hb1)
          obtain ⟨y0, _, _, y3, _, _, _⟩ := Prod_at (hc2.below T.out.bl hb1)
          have hb1' := Nat.lt_of_lt_of_le hb1 T.out.bl.size
          have z1 : (i : Int) < (n : Int) := by omega
          have z2 : (j : Int) < (n : Int) := by omega
          have HI1 := Lib.hid hi1
          rw [e1] at T x0 x1 x3 y0 y3 hb1' ⊢
          clear HQ hP hC hc1 hc2 e1 e2 hi1 h1 h2 h3 h4
          obtain ⟨c0, c1, c2, c3, c4⟩ := cells5' T.out.b0
          obtain ⟨p0, p1, p2⟩ := cells3g T.out.b1
          have l0 := T.out.b0.lt
          have l1 := T.out.b1.lt
          obtain ⟨W, hW⟩ : ∃ W, W = (w.alloc (.cells #[.slice g.sa g.sorts.length g.sc, .slice (some ⟨b1, o1, none⟩) n g.pc, .int .i64 g.start, .slice g.fa g.forbid.length g.fc, .slice g.wa g.follow.length g.wc] 27)).alloc (.cells #[.int .i64 (i : Int), .int .i64 at_, .int .i64 (j : Int)] 78) := ⟨_, rfl⟩
          rw [← hW] at c0 c1 c2 c3 c4 p0 p1 p2 l0 l1 x0 x1 x3 y0 y3 hb1' T
          have HW := Lib.hid hW
          clear hW HBf
          have HBf := Lib.hid T.out.bl
          by_cases h5 : P.role = 11
          · have HE : Hid (q = false) := Lib.hid (by rw [HQ2.out]; unfold standB; simp [h5])
            have k5 : (P.role == 11) = true := by simpa using h5
            clear HQ2 h5
            go_enter Try.func33, Try.ntmps33
            go_upto_region 1 with fail
            rw [← HW.out]
            go_wp2
            go_ret
            exact ⟨by rw [HE.out]; rfl, HBf.out⟩
          · have k5 : (P.role == 11) = false := by simpa using h5
            by_cases h6 : C.role = 11
            · have HE : Hid (q = false) := Lib.hid (by rw [HQ2.out]; unfold standB; simp [h6])
              have k6 : (C.role == 11) = true := by simpa using h6
              clear HQ2 h5 h6
              go_enter Try.func33, Try.ntmps33
              go_upto_region 1 with fail
              rw [← HW.out]
              go_wp2
              go_ret
              exact ⟨by rw [HE.out]; rfl, HBf.out⟩
            · have k6 : (C.role == 11) = false := by simpa using h6
              by_cases h7 : at_ < 1
              · have HE : Hid (q = false) := Lib.hid (by rw [HQ2.out]; unfold standB numB; rw [decide_eq_false (by omega : ¬ 0 ≤ at_ - 1)]; simp only [Bool.false_and, Bool.and_false])
                have k7 : decide (at_ < 1) = true := by simpa using h7
                clear HQ2 h5 h6 h7
                go_enter Try.func33, Try.ntmps33
                go_upto_region 1 with fail
                rw [← HW.out]
                go_wp2
                go_region
                go_wp2
                go_ret
                exact ⟨by rw [HE.out]; rfl, HBf.out.drew⟩
              · have k7 : decide (at_ < 1) = false := by simpa using h7
                by_cases h8 : (P.right.length : Int) < at_
                · have HE : Hid (q = false) := Lib.hid (by rw [HQ2.out]; unfold standB numB; rw [decide_eq_false (by omega : ¬ at_ - 1 < (P.right.length : Int))]; simp only [Bool.false_and, Bool.and_false])
                  have k8 : decide ((P.right.length : Int) < at_) = true := by simpa using h8
                  clear HQ2 h5 h6 h7 h8
                  go_enter Try.func33, Try.ntmps33
                  go_upto_region 1 with fail
                  rw [← HW.out]
                  go_wp2
                  go_region
                  go_wp2
                  go_ret
                  exact ⟨by rw [HE.out]; rfl, HBf.out.drew⟩
                · have k8 : decide ((P.right.length : Int) < at_) = false := by simpa using h8
                  obtain ⟨k, rfl⟩ : ∃ k : Nat, at_ = (k : Int) + 1 := ⟨(at_ - 1).toNat, by omega⟩
                  obtain ⟨s, hs⟩ : ∃ s, P.right[k]? = some s := ⟨_, List.getElem?_eq_getElem (by omega)⟩
                  have HQ3 : Hid (q = (s.kind == 1 && s.sort == C.left)) := Lib.hid (by rw [HQ2.out]; unfold standB numB; rw [k5, k6, show ((k : Int) + 1 - 1) = (k : Int) by omega, Int.toNat_natCast, hs]; simp; intro _ _; omega)
                  obtain ⟨b3, o3, e3, hb3, hc3, _⟩ := HI1.out k s hs
                  obtain ⟨s0, s1, s2, s3, s4, s5⟩ := Sym_at (hc3.below HBf.out hb3)
                  have hb3' := Nat.lt_of_lt_of_le hb3 HBf.out.size
                  have z3 : (k : Int) < (P.right.length : Int) := by omega
                  have d5 : decide (n ≤ i) = false := by simp; omega
                  have d6 : decide (n ≤ j) = false := by simp; omega
                  rw [e3] at x1
                  clear HQ2 h5 h6 h7 h8 hs hc3 e3 hat0 hat1
                  cases k9 : (s.kind == 1) with
                  | false =>
                    have HQ4 : Hid (q = false) := Lib.hid (by rw [HQ3.out, k9]; rfl)
                    clear HQ3
                    go_enter Try.func33, Try.ntmps33
                    go_upto_region 1 with fail
                    rw [← HW.out]
                    go_wp2
                    go_region
                    have z4 : IntKind.i64.wrap ((k : Int) + 1 - 1) = (k : Int) := by rw [show ((k : Int) + 1 - 1) = (k : Int) by omega]; exact IntWalk.i64_in _ (by omega)
                    have z5 : IntKind.i64.wrap (k : Int) = (k : Int) := IntWalk.i64_in _ (by omega)
                    go_wp2
                    go_region
                    go_wp2
                    go_region
                    go_wp2
                    go_ret
                    exact ⟨by rw [HQ4.out]; try rfl, (HBf.out.drew.alloc HBf.out.size _).drew.drew⟩
                  | true =>
                    have HQ4 : Hid (q = (s.sort == C.left)) := Lib.hid (by rw [HQ3.out, k9]; rfl)
                    clear HQ3
                    go_enter Try.func33, Try.ntmps33
                    go_upto_region 1 with fail
                    rw [← HW.out]
                    go_wp2
                    go_region
                    have z4 : IntKind.i64.wrap ((k : Int) + 1 - 1) = (k : Int) := by rw [show ((k : Int) + 1 - 1) = (k : Int) by omega]; exact IntWalk.i64_in _ (by omega)
                    have z5 : IntKind.i64.wrap (k : Int) = (k : Int) := IntWalk.i64_in _ (by omega)
                    go_wp2
                    go_region
                    go_wp2
                    go_region
                    go_wp2
                    go_ret
                    exact ⟨by rw [HQ4.out]; try rfl, (HBf.out.drew.alloc HBf.out.size _).drew.drew⟩
end Go.Proofs.Ytiihdbchchnncaa
end
