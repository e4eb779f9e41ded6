import Derived.Test.YtodnlcbnbkkanaaGreatDoorS3
import Derived.Test.YtodnlcbnbkkanaaGreatDoorS4
section
namespace Go.Proofs.YtodnlcbnbkkanaaGreatDoor
open Go Go.RowKit

def symBad (n : Int) (role : Int) (s : SymM) : Bool := if s.kind = 0 then s.set == 0#256 || !(s.sort == 0) else if s.kind = 1 then !(s.set == 0#256) || (!(numB s.sort n) || role == 11) else true
def rfirstB (n : Int) (x : ProdM) : Bool := !(numB x.left n) || (decide (30 < x.right.length) || (decide (x.role < 0) || (decide (11 < x.role) || (decide (x.frm < -1) || (decide (64 < x.cons.size) || ((!x.cons.toList.isEmpty && !(x.role == 0)) || (x.prefer && x.avoid)))))))
def rprodB (n : Int) (x : ProdM) : Bool := !(rfirstB n x) && x.right.all fun s => !(symBad n x.role s)

theorem all_congr' {α : Type} {p q : α → Bool} {l : List α} (h : ∀ x, x ∈ l → p x = q x) : l.all p = l.all q := by
 induction l with
 | nil => rfl
 | cons x r ih => rw [List.all_cons, List.all_cons, h x (by simp), ih (fun y hy => h y (by simp [hy]))]
theorem sym_bad (n role : Int) (s : SymM) (h : role ≠ 11) : (!(symBad n role s)) = symB n s := by
 have hr : (role == 11) = false := by simpa using h
 unfold symBad symB
 by_cases h0 : s.kind = 0
 ·rw [if_pos h0, if_pos h0]; cases s.set == 0#256 <;> cases s.sort == 0 <;> rfl
 ·rw [if_neg h0, if_neg h0]
  by_cases h1 : s.kind = 1
  ·rw [if_pos h1, if_pos h1, hr]; cases s.set == 0#256 <;> cases numB s.sort n <;> rfl
  ·rw [if_neg h1, if_neg h1]; rfl
theorem sym_bad11 (n : Int) (s : SymM) : (!(symBad n 11 s)) = (symB n s && sortB (fun _ => false) s) := by
 obtain ⟨k, st, so⟩ := s
 unfold symBad symB sortB
 dsimp only
 by_cases h0 : k = 0
 ·subst h0
  rw [if_pos rfl, if_pos rfl]
  cases st == 0#256 <;> cases so == 0 <;> rfl
 ·rw [if_neg h0, if_neg h0]
  by_cases h1 : k = 1
  ·subst h1
   rw [if_pos rfl, if_pos rfl]
   cases st == 0#256 <;> cases numB so n <;> rfl
  ·rw [if_neg h1, if_neg h1]; rfl
theorem all_and {α : Type} (p q : α → Bool) (l : List α) : (l.all fun x => p x && q x) = (l.all p && l.all q) := by
 induction l with
 | nil => rfl
 | cons x r ih => simp only [List.all_cons, ih]; cases p x <;> cases q x <;> simp
theorem empty_size (s : ByteArray) : s.toList.isEmpty = decide (s.size = 0) := by
 rw [toList_data]
 have h : s.size = s.data.toList.length := by rw [Array.length_toList]; rfl
 rw [h]
 cases s.data.toList <;> simp
theorem rprod_eq (n : Int) (x : ProdM) : rprodB n x = prodB n x := by
 have hE : x.cons.toList.isEmpty = true → decide (64 < x.cons.size) = false := fun h => by
  rw [empty_size] at h
  have := of_decide_eq_true h
  exact decide_eq_false (by omega)
 have h64 : decide (x.cons.size ≤ 64) = !decide (64 < x.cons.size) := by rw [Bool.eq_iff_iff]; simp
 have h30 : decide (x.right.length ≤ 30) = !decide (30 < x.right.length) := by rw [Bool.eq_iff_iff]; simp
 have hf : decide (-1 ≤ x.frm) = !decide (x.frm < -1) := by rw [Bool.eq_iff_iff]; simp
 unfold rprodB prodB rfirstB roleB
 rw [h64, h30, hf]
 generalize numB x.left n = b0
 generalize decide (64 < x.cons.size) = b1 at *
 generalize decide (30 < x.right.length) = b2
 generalize decide (x.frm < -1) = b3
 generalize x.cons.toList.isEmpty = b4 at *
 generalize x.prefer = b5
 generalize x.avoid = b6
 clear h64 h30 hf
 by_cases r0 : x.role < 0
 ·rw [if_pos r0, decide_eq_true r0]; simp
 ·rw [if_neg r0, decide_eq_false r0]
  by_cases r1 : 11 < x.role
  ·rw [if_pos r1, decide_eq_true r1]; simp
  ·rw [if_neg r1, decide_eq_false r1]
   by_cases r2 : x.role = 0
   ·have e0 : (x.role == 0) = true := by simpa using r2
    rw [if_pos r2, e0, show (x.right.all fun s => !symBad n x.role s) = x.right.all (symB n) from all_congr' fun s _ => sym_bad n x.role s (by omega)]
    generalize x.right.all (symB n) = b7
    clear r0 r1 r2 e0
    revert hE
    cases b0 <;> cases b1 <;> cases b2 <;> cases b3 <;> cases b4 <;> cases b5 <;> cases b6 <;> cases b7 <;> decide
   ·have e0 : (x.role == 0) = false := by simpa using r2
    rw [if_neg r2, e0]
    by_cases r3 : x.role = 11
    ·rw [r3, show (x.right.all fun s => !symBad n 11 s) = (x.right.all fun s => symB n s && sortB (fun _ => false) s) from all_congr' fun s _ => sym_bad11 n s, all_and]
     rw [show sortsB (fun _ => false) x = x.right.all (sortB fun _ => false) from rfl]
     generalize x.right.all (symB n) = b7
     generalize x.right.all (sortB fun _ => false) = b8
     clear r0 r1 r2 r3 e0
     revert hE
     cases b0 <;> cases b1 <;> cases b2 <;> cases b3 <;> cases b4 <;> cases b5 <;> cases b6 <;> cases b7 <;> cases b8 <;> decide
    ·rw [if_neg (fun h => r3 h.1), show (x.right.all fun s => !symBad n x.role s) = x.right.all (symB n) from all_congr' fun s _ => sym_bad n x.role s r3]
     generalize x.right.all (symB n) = b7
     clear r0 r1 r2 r3 e0
     revert hE
     cases b0 <;> cases b1 <;> cases b2 <;> cases b3 <;> cases b4 <;> cases b5 <;> cases b6 <;> cases b7 <;> decide

structure TwoG (w wr : World) (x : Array Value) (t : Nat) (y : Array Value) : Prop where
 b0 : Blk wr w.heap.size 27 x
 b1 : Blk wr (w.heap.size + 1) t y
 bl : Below w.heap.size w wr
theorem TwoG.start (w : World) (x : Array Value) (t : Nat) (y : Array Value) : TwoG w ((w.alloc (.cells x 27)).alloc (.cells y t)) x t y := by
 refine ⟨(Blk.new w 27 x).alloc _, ?_, ((Below.refl _ w).alloc (Nat.le_refl _) _).alloc (by simp) _⟩
 have h := Blk.new (w.alloc (.cells x 27)) t y
 rw [World.size_alloc] at h
 exact h
theorem TwoG.below {w wr W : World} {x : Array Value} {t : Nat} {y : Array Value} (h : TwoG w wr x t y) (hB : Below wr.heap.size wr W) : TwoG w W x t y := ⟨h.b0.below hB h.b0.lt, h.b1.below hB h.b1.lt, h.bl.trans (hB.mono h.bl.size)⟩
theorem cells6 {W : World} {B t : Nat} {a b c d e f : Value} (h : Blk W B t #[a, b, c, d, e, f]) : W.cell? ⟨B, 0, none⟩ = some a ∧ W.cell? ⟨B, 1, none⟩ = some b ∧ W.cell? ⟨B, 2, none⟩ = some c ∧ W.cell? ⟨B, 3, none⟩ = some d ∧ W.cell? ⟨B, 4, none⟩ = some e ∧ W.cell? ⟨B, 5, none⟩ = some f :=
 ⟨h.cell 0, h.cell 1, h.cell 2, h.cell 3, h.cell 4, h.cell 5⟩

set_option maxRecDepth 100000 in
set_option maxHeartbeats 4000000 in
theorem rprod_any (g : GramM) (x : ProdM) (w : World) (hx : ProdIn w x) (hn : x.right.length ≤ maxLen) : Calls Tryz.prog 42 #[gramV g, prodV x] w fun e w' => e = .returned (.bool (prodB g.sorts.length x)) ∧ Below w.heap.size w w' := by
 have T0 := Lib.hid (TwoG.start w (gramC g) 65 (prodC x))
 have hB0 := T0.out.bl
 have HX := Lib.hid hx
 have HS0 := Lib.hid (rsort_any g x.left ((w.alloc (.cells (gramC g) 27)).alloc (.cells (prodC x) 65)))
 have HSo := fun n W => Lib.hid (rsort_any g n W)
 rw [← rprod_eq]
 obtain ⟨q, hq⟩ : ∃ q, q = rprodB g.sorts.length x := ⟨_, rfl⟩
 rw [← hq]
 obtain ⟨r0, hr0⟩ : ∃ r, r = numB x.left g.sorts.length := ⟨_, rfl⟩
 have HF : Hid (rfirstB g.sorts.length x = true → q = false) := Lib.hid fun h => by rw [hq, rprodB, h]; rfl
 have HB : Hid (∀ (i : Nat) (s : SymM), x.right[i]? = some s → symBad g.sorts.length x.role s = true → q = false) := Lib.hid fun i s hi hs => by
  rw [hq, rprodB, List.all_eq_false.2 ⟨s, List.mem_of_getElem? hi, by rw [hs]; simp⟩, Bool.and_false]
 have HY : Hid (rfirstB g.sorts.length x = false → (∀ (i : Nat) (s : SymM), x.right[i]? = some s → symBad g.sorts.length x.role s = false) → q = true) := Lib.hid fun h hs => by
  rw [hq, rprodB, h, List.all_eq_true.2 (fun s hm => by obtain ⟨i, hi⟩ := List.mem_iff_getElem?.1 hm; rw [hs i s hi]; rfl)]; rfl
 have HU : Hid (rfirstB g.sorts.length x = (!r0 || (decide (30 < x.right.length) || (decide (x.role < 0) || (decide (11 < x.role) || (decide (x.frm < -1) || (decide (64 < x.cons.size) || ((!x.cons.toList.isEmpty && !(x.role == 0)) || (x.prefer && x.avoid))))))))) := Lib.hid (by rw [hr0]; rfl)
 rw [← hr0] at HS0
 unfold maxLen at hn
 obtain ⟨ns, hns⟩ : ∃ n : Nat, n = g.sorts.length := ⟨_, rfl⟩
 rw [← hns] at HF HB HY HU HSo
 clear hq hr0 hx hB0
 obtain ⟨left, ra, rc, right, cons, role, prefer, avoid, frm⟩ := x
 unfold ProdIn at HX
 dsimp only at *
 obtain ⟨m, hm⟩ : ∃ m, m = right.length := ⟨_, rfl⟩
 have HM := Lib.hid hm
 unfold gramV gramC prodV prodC at *
 dsimp only at *
 rw [← hns] at T0 HS0 ⊢
 rw [← hm] at hn T0 HS0 HU ⊢
 simp only [← hns] at HSo
 clear hns hm
 cases r0 with
 | false =>
  have HE : Hid (q = false) := Lib.hid (HF.out (by rw [HU.out]; simp []))
  clear HF HB HY HU
  go_enter Tryz.func42, Tryz.ntmps42
  go_wp2_with fail
  with_reducible refine HS0.out.mono ?_
  rintro e w1 ⟨rfl, hB1⟩
  have T := Lib.hid (T0.out.below hB1)
  clear hB1 T0 HS0
  obtain ⟨c0, c1, c2, c3, c4⟩ := cells5' T.out.b0
  obtain ⟨p0, p1, p2, p3, p4, p5, p6⟩ := cells7g T.out.b1
  have l0 := T.out.b0.lt
  have l1 := T.out.b1.lt
  go_wp2
  go_ret
  exact ⟨by rw [HE.out]; rfl, T.out.bl⟩
 | true =>
  by_cases h1 : 30 < m
  ·have d1 : decide ((30 : Int) < (m : Int)) = true := by simp; omega
   have HE : Hid (q = false) := Lib.hid (HF.out (by rw [HU.out]; simp [h1]))
   clear HF HB HY HU
   clear h1
   go_enter Tryz.func42, Tryz.ntmps42
   go_wp2_with fail
   with_reducible refine HS0.out.mono ?_
   rintro e w1 ⟨rfl, hB1⟩
   have T := Lib.hid (T0.out.below hB1)
   clear hB1 T0 HS0
   obtain ⟨c0, c1, c2, c3, c4⟩ := cells5' T.out.b0
   obtain ⟨p0, p1, p2, p3, p4, p5, p6⟩ := cells7g T.out.b1
   have l0 := T.out.b0.lt
   have l1 := T.out.b1.lt
   go_wp2
   go_ret
   exact ⟨by rw [HE.out]; rfl, T.out.bl⟩
  ·have d1 : decide ((30 : Int) < (m : Int)) = false := by simp; omega
   by_cases h2 : role < 0
   ·have d2 : decide (role < 0) = true := by simp; omega
    have HE : Hid (q = false) := Lib.hid (HF.out (by rw [HU.out]; simp [h2]))
    clear HF HB HY HU
    clear h2
    go_enter Tryz.func42, Tryz.ntmps42
    go_wp2_with fail
    with_reducible refine HS0.out.mono ?_
    rintro e w1 ⟨rfl, hB1⟩
    have T := Lib.hid (T0.out.below hB1)
    clear hB1 T0 HS0
    obtain ⟨c0, c1, c2, c3, c4⟩ := cells5' T.out.b0
    obtain ⟨p0, p1, p2, p3, p4, p5, p6⟩ := cells7g T.out.b1
    have l0 := T.out.b0.lt
    have l1 := T.out.b1.lt
    go_wp2
    go_ret
    exact ⟨by rw [HE.out]; rfl, T.out.bl⟩
   ·have d2 : decide (role < 0) = false := by simp; omega
    by_cases h3 : 11 < role
    ·have d3 : decide ((11 : Int) < role) = true := by simp; omega
     have HE : Hid (q = false) := Lib.hid (HF.out (by rw [HU.out]; simp [h3]))
     clear HF HB HY HU
     clear h3
     go_enter Tryz.func42, Tryz.ntmps42
     go_wp2_with fail
     with_reducible refine HS0.out.mono ?_
     rintro e w1 ⟨rfl, hB1⟩
     have T := Lib.hid (T0.out.below hB1)
     clear hB1 T0 HS0
     obtain ⟨c0, c1, c2, c3, c4⟩ := cells5' T.out.b0
     obtain ⟨p0, p1, p2, p3, p4, p5, p6⟩ := cells7g T.out.b1
     have l0 := T.out.b0.lt
     have l1 := T.out.b1.lt
     go_wp2
     go_ret
     exact ⟨by rw [HE.out]; rfl, T.out.bl⟩
    ·have d3 : decide ((11 : Int) < role) = false := by simp; omega
     by_cases h4 : frm < -1
     ·have d4 : decide (frm < (-1 : Int)) = true := by simp; omega
      have HE : Hid (q = false) := Lib.hid (HF.out (by rw [HU.out]; simp [h4]))
      clear HF HB HY HU
      clear h4
      go_enter Tryz.func42, Tryz.ntmps42
      go_wp2_with fail
      with_reducible refine HS0.out.mono ?_
      rintro e w1 ⟨rfl, hB1⟩
      have T := Lib.hid (T0.out.below hB1)
      clear hB1 T0 HS0
      obtain ⟨c0, c1, c2, c3, c4⟩ := cells5' T.out.b0
      obtain ⟨p0, p1, p2, p3, p4, p5, p6⟩ := cells7g T.out.b1
      have l0 := T.out.b0.lt
      have l1 := T.out.b1.lt
      go_wp2
      go_ret
      exact ⟨by rw [HE.out]; rfl, T.out.bl⟩
     ·have d4 : decide (frm < (-1 : Int)) = false := by simp; omega
      by_cases h5 : 64 < cons.size
      ·have d5 : decide ((64 : Int) < (cons.size : Int)) = true := by simp; omega
       have HE : Hid (q = false) := Lib.hid (HF.out (by rw [HU.out]; simp [h5]))
       clear HF HB HY HU
       clear h5
       go_enter Tryz.func42, Tryz.ntmps42
       go_wp2_with fail
       with_reducible refine HS0.out.mono ?_
       rintro e w1 ⟨rfl, hB1⟩
       have T := Lib.hid (T0.out.below hB1)
       clear hB1 T0 HS0
       obtain ⟨c0, c1, c2, c3, c4⟩ := cells5' T.out.b0
       obtain ⟨p0, p1, p2, p3, p4, p5, p6⟩ := cells7g T.out.b1
       have l0 := T.out.b0.lt
       have l1 := T.out.b1.lt
       go_wp2
       go_ret
       exact ⟨by rw [HE.out]; rfl, T.out.bl⟩
      ·have d5 : decide ((64 : Int) < (cons.size : Int)) = false := by simp; omega
       cases he : cons.toList.isEmpty with
       | true =>
        have z0 : cons.toList = [] := by simpa using he
        have k6 : (!cons.toList.isEmpty && !(role == 0)) = false := by rw [he]; rfl
        cases prefer with
        | false =>
         have HE0 : Hid (rfirstB _ _ = false) := Lib.hid (by rw [HU.out]; simp [h1, h2, h3, h4, h5, he])
         have HY2 := Lib.hid (HY.out HE0.out)
         clear HF HY HU HE0
         go_enter Tryz.func42, Tryz.ntmps42
         go_wp2_with fail
         with_reducible refine HS0.out.mono ?_
         rintro e w1 ⟨rfl, hB1⟩
         have T := Lib.hid (T0.out.below hB1)
         clear hB1 T0 HS0
         obtain ⟨c0, c1, c2, c3, c4⟩ := cells5' T.out.b0
         obtain ⟨p0, p1, p2, p3, p4, p5, p6⟩ := cells7g T.out.b1
         have l0 := T.out.b0.lt
         have l1 := T.out.b1.lt
         go_wp2
         go_loopw [5] (fun i wr => ∃ k : Nat, i = .int .i64 k ∧ k ≤ m ∧ Hid (∀ (i : Nat) (s : SymM), i < k → right[i]? = some s → symBad ns role s = false) ∧ Hid (TwoG w wr #[.slice g.sa ns g.sc, .slice g.pa g.prods.length g.pc, .int .i64 g.start, .slice g.fa g.forbid.length g.fc, .slice g.wa g.follow.length g.wc] 65 #[.int .i64 left, .slice ra m rc, .string cons, .int .i64 role, .bool false, .bool avoid, .int .i64 frm])) (fun i _ => m - (intOf i).toNat)
         case atStart => exact ⟨0, rfl, Nat.zero_le _, Lib.hid (fun j s hj => by omega), T⟩
         case round =>
          clear T c0 c1 c2 c3 c4 p0 p1 p2 p3 p4 p5 p6 l0 l1
          obtain ⟨k, rfl, hk, hS, T⟩ := hrel
          obtain ⟨c0, c1, c2, c3, c4⟩ := cells5' T.out.b0
          obtain ⟨p0, p1, p2, p3, p4, p5, p6⟩ := cells7g T.out.b1
          have l0 := T.out.b0.lt
          have l1 := T.out.b1.lt
          by_cases hlt : k < m
          ·obtain ⟨s, hs⟩ : ∃ s, right[k]? = some s := ⟨_, List.getElem?_eq_getElem (by rw [← HM.out]; exact hlt)⟩
           obtain ⟨b1, o1, e1, hb1, hc1, _⟩ := HX.out k s hs
           obtain ⟨x0, x1, x2, x3, x4, x5⟩ := Sym_at (hc1.below T.out.bl hb1)
           have hb1' := Nat.lt_of_lt_of_le hb1 T.out.bl.size
           have HXB : Hid (symBad ns role s = true → q = false) := Lib.hid (HB.out k s hs)
           have HXG : Hid (symBad ns role s = false → ∀ (i : Nat) (s : SymM), i < k + 1 → right[i]? = some s → symBad ns role s = false) := Lib.hid (fun h i y hi hy => by
            by_cases e : i = k
            ·subst e; rw [hs] at hy; cases hy; exact h
            ·exact hS.out i y (by omega) hy)
           have z1 : (k : Int) < (m : Int) := by omega
           have z0 : (0 : Int) ≤ (k : Int) := by omega
           rw [e1] at p1
           clear hs hc1 hS e1
           obtain ⟨sk, ss, so⟩ := s
           dsimp only at *
           obtain ⟨z, hz⟩ : ∃ z, z = (ss == 0#256) := ⟨_, rfl⟩
           have HZE : Hid ((ss == 0#256) = z) := Lib.hid hz.symm
           have HEm : ∀ W, Hid (Calls Tryz.prog 44 #[.agg #[.int .u64 (wdI ss 0), .int .u64 (wdI ss 1), .int .u64 (wdI ss 2), .int .u64 (wdI ss 3)]] W fun e w' => e = .returned (.bool z) ∧ Below W.heap.size W w') := fun W => Lib.hid (by rw [hz]; exact empty_any ss W)
           have hA : Below wr.heap.size wr (wr.alloc (.cells #[.int .i64 sk, .int .u64 (wdI ss 0), .int .u64 (wdI ss 1), .int .u64 (wdI ss 2), .int .u64 (wdI ss 3), .int .i64 so] 60)) := (Below.refl _ wr).alloc (Nat.le_refl _) _
           have TA := Lib.hid (T.out.below hA)
           have SA := Lib.hid (Blk.new wr 60 #[.int .i64 sk, .int .u64 (wdI ss 0), .int .u64 (wdI ss 1), .int .u64 (wdI ss 2), .int .u64 (wdI ss 3), .int .i64 so])
           clear hz hA T
           by_cases k0 : sk = 0
           ·subst k0
            cases z with
            | true =>
             have HE := Lib.hid (HXB.out (by unfold symBad; rw [if_pos rfl, HZE.out]; rfl))
             clear HXB HXG HB HY2
             go_wp2_with fail
             with_reducible refine (HEm _).out.mono ?_
             rintro e w3 ⟨rfl, hB3⟩
             have T3 := Lib.hid (TA.out.below hB3)
             have S3 := Lib.hid (SA.out.below hB3 SA.out.lt)
             have HBf := Lib.hid T3.out.bl
             clear hB3
             obtain ⟨c0, c1, c2, c3, c4⟩ := cells5' T3.out.b0
             obtain ⟨p0, p1, p2, p3, p4, p5, p6⟩ := cells7g T3.out.b1
             obtain ⟨s0, s1, s2, s3, s4, s5⟩ := cells6 S3.out
             have l0 := T3.out.b0.lt
             have l1 := T3.out.b1.lt
             have l2 := S3.out.lt
             go_wp2
             go_ret
             exact ⟨by rw [HE.out]; rfl, HBf.out⟩
            | false =>
             by_cases k1 : so = 0
             ·subst k1
              have HZ2 := Lib.hid (HXG.out (by unfold symBad; rw [if_pos rfl, HZE.out]; rfl))
              clear HXB HXG
              go_wp2_with fail
              with_reducible refine (HEm _).out.mono ?_
              rintro e w3 ⟨rfl, hB3⟩
              have T3 := Lib.hid (TA.out.below hB3)
              have S3 := Lib.hid (SA.out.below hB3 SA.out.lt)
              have HBf := Lib.hid T3.out.bl
              clear hB3
              obtain ⟨c0, c1, c2, c3, c4⟩ := cells5' T3.out.b0
              obtain ⟨p0, p1, p2, p3, p4, p5, p6⟩ := cells7g T3.out.b1
              obtain ⟨s0, s1, s2, s3, s4, s5⟩ := cells6 S3.out
              have l0 := T3.out.b0.lt
              have l1 := T3.out.b1.lt
              have l2 := S3.out.lt
              go_wp2
              go_roundw
              case rel => exact ⟨k + 1, by go_num, by omega, HZ2, T3⟩
              case measure => simp [intOf]; omega
             ·have z5 : (so != 0) = true := by simpa using k1
              have z6 : (so == 0) = false := by simpa using k1
              have HE := Lib.hid (HXB.out (by unfold symBad; rw [if_pos rfl, HZE.out, z6]; rfl))
              clear HXB HXG HB HY2
              clear k1
              go_wp2_with fail
              with_reducible refine (HEm _).out.mono ?_
              rintro e w3 ⟨rfl, hB3⟩
              have T3 := Lib.hid (TA.out.below hB3)
              have S3 := Lib.hid (SA.out.below hB3 SA.out.lt)
              have HBf := Lib.hid T3.out.bl
              clear hB3
              obtain ⟨c0, c1, c2, c3, c4⟩ := cells5' T3.out.b0
              obtain ⟨p0, p1, p2, p3, p4, p5, p6⟩ := cells7g T3.out.b1
              obtain ⟨s0, s1, s2, s3, s4, s5⟩ := cells6 S3.out
              have l0 := T3.out.b0.lt
              have l1 := T3.out.b1.lt
              have l2 := S3.out.lt
              go_wp2
              go_ret
              exact ⟨by rw [HE.out]; rfl, HBf.out⟩
           ·have z7 : (sk == 0) = false := by simpa using k0
            by_cases k2 : sk = 1
            ·subst k2
             cases z with
             | false =>
              have HE := Lib.hid (HXB.out (by unfold symBad; rw [if_neg k0, if_pos rfl, HZE.out]; rfl))
              clear HXB HXG HB HY2
              clear k0
              go_wp2_with fail
              with_reducible refine (HEm _).out.mono ?_
              rintro e w3 ⟨rfl, hB3⟩
              have T3 := Lib.hid (TA.out.below hB3)
              have S3 := Lib.hid (SA.out.below hB3 SA.out.lt)
              have HBf := Lib.hid T3.out.bl
              clear hB3
              obtain ⟨c0, c1, c2, c3, c4⟩ := cells5' T3.out.b0
              obtain ⟨p0, p1, p2, p3, p4, p5, p6⟩ := cells7g T3.out.b1
              obtain ⟨s0, s1, s2, s3, s4, s5⟩ := cells6 S3.out
              have l0 := T3.out.b0.lt
              have l1 := T3.out.b1.lt
              have l2 := S3.out.lt
              go_wp2
              go_ret
              exact ⟨by rw [HE.out]; rfl, HBf.out⟩
             | true =>
              obtain ⟨y, hy⟩ : ∃ y, y = numB so ns := ⟨_, rfl⟩
              have HYN := Lib.hid hy
              have HS1 : ∀ W, Hid (Calls Tryz.prog 41 #[.agg #[.slice g.sa ns g.sc, .slice g.pa g.prods.length g.pc, .int .i64 g.start, .slice g.fa g.forbid.length g.fc, .slice g.wa g.follow.length g.wc], .int .i64 so] W fun e w' => e = .returned (.bool y) ∧ Below W.heap.size W w') := fun W => Lib.hid (by rw [hy]; exact (HSo so W).out)
              clear hy HSo
              cases y with
              | false =>
               have HE := Lib.hid (HXB.out (by unfold symBad; rw [if_neg k0, if_pos rfl, HZE.out, ← HYN.out]; rfl))
               clear HXB HXG HB HY2
               clear k0
               go_wp2_with fail
               with_reducible refine (HEm _).out.mono ?_
               rintro e w3 ⟨rfl, hB3⟩
               have T3 := Lib.hid (TA.out.below hB3)
               have S3 := Lib.hid (SA.out.below hB3 SA.out.lt)
               have HBf := Lib.hid T3.out.bl
               clear hB3
               obtain ⟨c0, c1, c2, c3, c4⟩ := cells5' T3.out.b0
               obtain ⟨p0, p1, p2, p3, p4, p5, p6⟩ := cells7g T3.out.b1
               obtain ⟨s0, s1, s2, s3, s4, s5⟩ := cells6 S3.out
               have l0 := T3.out.b0.lt
               have l1 := T3.out.b1.lt
               have l2 := S3.out.lt
               go_wp2_with fail
               with_reducible refine (HS1 _).out.mono ?_
               rintro e w4 ⟨rfl, hB4⟩
               have T4 := Lib.hid (T3.out.below hB4)
               have S4 := Lib.hid (S3.out.below hB4 S3.out.lt)
               have HBf := Lib.hid T4.out.bl
               clear hB4 c0 c1 c2 c3 c4 p0 p1 p2 p3 p4 p5 p6 s0 s1 s2 s3 s4 s5 l0 l1 l2
               obtain ⟨c0, c1, c2, c3, c4⟩ := cells5' T4.out.b0
               obtain ⟨p0, p1, p2, p3, p4, p5, p6⟩ := cells7g T4.out.b1
               obtain ⟨s0, s1, s2, s3, s4, s5⟩ := cells6 S4.out
               have l0 := T4.out.b0.lt
               have l1 := T4.out.b1.lt
               have l2 := S4.out.lt
               go_wp2
               go_ret
               exact ⟨by rw [HE.out]; rfl, HBf.out⟩
              | true =>
               by_cases k3 : role = 11
               ·have z8 : (role == 11) = true := by simpa using k3
                have HE := Lib.hid (HXB.out (by unfold symBad; rw [if_neg k0, if_pos rfl, HZE.out, ← HYN.out, z8]; rfl))
                clear HXB HXG HB HY2
                clear k0 k3
                go_wp2_with fail
                with_reducible refine (HEm _).out.mono ?_
                rintro e w3 ⟨rfl, hB3⟩
                have T3 := Lib.hid (TA.out.below hB3)
                have S3 := Lib.hid (SA.out.below hB3 SA.out.lt)
                have HBf := Lib.hid T3.out.bl
                clear hB3
                obtain ⟨c0, c1, c2, c3, c4⟩ := cells5' T3.out.b0
                obtain ⟨p0, p1, p2, p3, p4, p5, p6⟩ := cells7g T3.out.b1
                obtain ⟨s0, s1, s2, s3, s4, s5⟩ := cells6 S3.out
                have l0 := T3.out.b0.lt
                have l1 := T3.out.b1.lt
                have l2 := S3.out.lt
                go_wp2_with fail
                with_reducible refine (HS1 _).out.mono ?_
                rintro e w4 ⟨rfl, hB4⟩
                have T4 := Lib.hid (T3.out.below hB4)
                have S4 := Lib.hid (S3.out.below hB4 S3.out.lt)
                have HBf := Lib.hid T4.out.bl
                clear hB4 c0 c1 c2 c3 c4 p0 p1 p2 p3 p4 p5 p6 s0 s1 s2 s3 s4 s5 l0 l1 l2
                obtain ⟨c0, c1, c2, c3, c4⟩ := cells5' T4.out.b0
                obtain ⟨p0, p1, p2, p3, p4, p5, p6⟩ := cells7g T4.out.b1
                obtain ⟨s0, s1, s2, s3, s4, s5⟩ := cells6 S4.out
                have l0 := T4.out.b0.lt
                have l1 := T4.out.b1.lt
                have l2 := S4.out.lt
                go_wp2
                go_ret
                exact ⟨by rw [HE.out]; rfl, HBf.out⟩
               ·have z8 : (role == 11) = false := by simpa using k3
                have HZ2 := Lib.hid (HXG.out (by unfold symBad; rw [if_neg k0, if_pos rfl, HZE.out, ← HYN.out, z8]; rfl))
                clear HXB HXG
                clear k0 k3
                go_wp2_with fail
                with_reducible refine (HEm _).out.mono ?_
                rintro e w3 ⟨rfl, hB3⟩
                have T3 := Lib.hid (TA.out.below hB3)
                have S3 := Lib.hid (SA.out.below hB3 SA.out.lt)
                have HBf := Lib.hid T3.out.bl
                clear hB3
                obtain ⟨c0, c1, c2, c3, c4⟩ := cells5' T3.out.b0
                obtain ⟨p0, p1, p2, p3, p4, p5, p6⟩ := cells7g T3.out.b1
                obtain ⟨s0, s1, s2, s3, s4, s5⟩ := cells6 S3.out
                have l0 := T3.out.b0.lt
                have l1 := T3.out.b1.lt
                have l2 := S3.out.lt
                go_wp2_with fail
                with_reducible refine (HS1 _).out.mono ?_
                rintro e w4 ⟨rfl, hB4⟩
                have T4 := Lib.hid (T3.out.below hB4)
                have S4 := Lib.hid (S3.out.below hB4 S3.out.lt)
                have HBf := Lib.hid T4.out.bl
                clear hB4 c0 c1 c2 c3 c4 p0 p1 p2 p3 p4 p5 p6 s0 s1 s2 s3 s4 s5 l0 l1 l2
                obtain ⟨c0, c1, c2, c3, c4⟩ := cells5' T4.out.b0
                obtain ⟨p0, p1, p2, p3, p4, p5, p6⟩ := cells7g T4.out.b1
                obtain ⟨s0, s1, s2, s3, s4, s5⟩ := cells6 S4.out
                have l0 := T4.out.b0.lt
                have l1 := T4.out.b1.lt
                have l2 := S4.out.lt
                go_wp2
                go_roundw
                case rel => exact ⟨k + 1, by go_num, by omega, HZ2, T4⟩
                case measure => simp [intOf]; omega
            ·have z9 : (sk == 1) = false := by simpa using k2
             have z10 : (sk != 0) = true := by simpa using k0
             have z11 : (sk != 1) = true := by simpa using k2
             have HE := Lib.hid (HXB.out (by unfold symBad; rw [if_neg k0, if_neg k2]))
             clear HXB HXG HB HY2
             clear k0 k2
             have HBf := Lib.hid TA.out.bl
             go_wp2
             go_ret
             exact ⟨by rw [HE.out]; rfl, HBf.out⟩
          ·have HE := Lib.hid (HY2.out (fun i s hs => hS.out i s (by have := (List.getElem?_eq_some_iff.1 hs).1; have := HM.out; omega) hs))
           obtain rfl : k = m := by omega
           clear hS HB HY2
           go_wp2
           go_ret
           exact ⟨by rw [HE.out]; rfl, T.out.bl⟩
        | true =>
         cases avoid with
         | false =>
          have HE0 : Hid (rfirstB _ _ = false) := Lib.hid (by rw [HU.out]; simp [h1, h2, h3, h4, h5, he])
          have HY2 := Lib.hid (HY.out HE0.out)
          clear HF HY HU HE0
          go_enter Tryz.func42, Tryz.ntmps42
          go_wp2_with fail
          with_reducible refine HS0.out.mono ?_
          rintro e w1 ⟨rfl, hB1⟩
          have T := Lib.hid (T0.out.below hB1)
          clear hB1 T0 HS0
          obtain ⟨c0, c1, c2, c3, c4⟩ := cells5' T.out.b0
          obtain ⟨p0, p1, p2, p3, p4, p5, p6⟩ := cells7g T.out.b1
          have l0 := T.out.b0.lt
          have l1 := T.out.b1.lt
          go_wp2
          go_loopw [5] (fun i wr => ∃ k : Nat, i = .int .i64 k ∧ k ≤ m ∧ Hid (∀ (i : Nat) (s : SymM), i < k → right[i]? = some s → symBad ns role s = false) ∧ Hid (TwoG w wr #[.slice g.sa ns g.sc, .slice g.pa g.prods.length g.pc, .int .i64 g.start, .slice g.fa g.forbid.length g.fc, .slice g.wa g.follow.length g.wc] 65 #[.int .i64 left, .slice ra m rc, .string cons, .int .i64 role, .bool true, .bool false, .int .i64 frm])) (fun i _ => m - (intOf i).toNat)
          case atStart => exact ⟨0, rfl, Nat.zero_le _, Lib.hid (fun j s hj => by omega), T⟩
          case round =>
           clear T c0 c1 c2 c3 c4 p0 p1 p2 p3 p4 p5 p6 l0 l1
           obtain ⟨k, rfl, hk, hS, T⟩ := hrel
           obtain ⟨c0, c1, c2, c3, c4⟩ := cells5' T.out.b0
           obtain ⟨p0, p1, p2, p3, p4, p5, p6⟩ := cells7g T.out.b1
           have l0 := T.out.b0.lt
           have l1 := T.out.b1.lt
           by_cases hlt : k < m
           ·obtain ⟨s, hs⟩ : ∃ s, right[k]? = some s := ⟨_, List.getElem?_eq_getElem (by rw [← HM.out]; exact hlt)⟩
            obtain ⟨b1, o1, e1, hb1, hc1, _⟩ := HX.out k s hs
            obtain ⟨x0, x1, x2, x3, x4, x5⟩ := Sym_at (hc1.below T.out.bl hb1)
            have hb1' := Nat.lt_of_lt_of_le hb1 T.out.bl.size
            have HXB : Hid (symBad ns role s = true → q = false) := Lib.hid (HB.out k s hs)
            have HXG : Hid (symBad ns role s = false → ∀ (i : Nat) (s : SymM), i < k + 1 → right[i]? = some s → symBad ns role s = false) := Lib.hid (fun h i y hi hy => by
             by_cases e : i = k
             ·subst e; rw [hs] at hy; cases hy; exact h
             ·exact hS.out i y (by omega) hy)
            have z1 : (k : Int) < (m : Int) := by omega
            have z0 : (0 : Int) ≤ (k : Int) := by omega
            rw [e1] at p1
            clear hs hc1 hS e1
            obtain ⟨sk, ss, so⟩ := s
            dsimp only at *
            obtain ⟨z, hz⟩ : ∃ z, z = (ss == 0#256) := ⟨_, rfl⟩
            have HZE : Hid ((ss == 0#256) = z) := Lib.hid hz.symm
            have HEm : ∀ W, Hid (Calls Tryz.prog 44 #[.agg #[.int .u64 (wdI ss 0), .int .u64 (wdI ss 1), .int .u64 (wdI ss 2), .int .u64 (wdI ss 3)]] W fun e w' => e = .returned (.bool z) ∧ Below W.heap.size W w') := fun W => Lib.hid (by rw [hz]; exact empty_any ss W)
            have hA : Below wr.heap.size wr (wr.alloc (.cells #[.int .i64 sk, .int .u64 (wdI ss 0), .int .u64 (wdI ss 1), .int .u64 (wdI ss 2), .int .u64 (wdI ss 3), .int .i64 so] 60)) := (Below.refl _ wr).alloc (Nat.le_refl _) _
            have TA := Lib.hid (T.out.below hA)
            have SA := Lib.hid (Blk.new wr 60 #[.int .i64 sk, .int .u64 (wdI ss 0), .int .u64 (wdI ss 1), .int .u64 (wdI ss 2), .int .u64 (wdI ss 3), .int .i64 so])
            clear hz hA T
            by_cases k0 : sk = 0
            ·subst k0
             cases z with
             | true =>
              have HE := Lib.hid (HXB.out (by unfold symBad; rw [if_pos rfl, HZE.out]; rfl))
              clear HXB HXG HB HY2
              go_wp2_with fail
              with_reducible refine (HEm _).out.mono ?_
              rintro e w3 ⟨rfl, hB3⟩
              have T3 := Lib.hid (TA.out.below hB3)
              have S3 := Lib.hid (SA.out.below hB3 SA.out.lt)
              have HBf := Lib.hid T3.out.bl
              clear hB3
              obtain ⟨c0, c1, c2, c3, c4⟩ := cells5' T3.out.b0
              obtain ⟨p0, p1, p2, p3, p4, p5, p6⟩ := cells7g T3.out.b1
              obtain ⟨s0, s1, s2, s3, s4, s5⟩ := cells6 S3.out
              have l0 := T3.out.b0.lt
              have l1 := T3.out.b1.lt
              have l2 := S3.out.lt
              go_wp2
              go_ret
              exact ⟨by rw [HE.out]; rfl, HBf.out⟩
             | false =>
              by_cases k1 : so = 0
              ·subst k1
               have HZ2 := Lib.hid (HXG.out (by unfold symBad; rw [if_pos rfl, HZE.out]; rfl))
               clear HXB HXG
               go_wp2_with fail
               with_reducible refine (HEm _).out.mono ?_
               rintro e w3 ⟨rfl, hB3⟩
               have T3 := Lib.hid (TA.out.below hB3)
               have S3 := Lib.hid (SA.out.below hB3 SA.out.lt)
               have HBf := Lib.hid T3.out.bl
               clear hB3
               obtain ⟨c0, c1, c2, c3, c4⟩ := cells5' T3.out.b0
               obtain ⟨p0, p1, p2, p3, p4, p5, p6⟩ := cells7g T3.out.b1
               obtain ⟨s0, s1, s2, s3, s4, s5⟩ := cells6 S3.out
               have l0 := T3.out.b0.lt
               have l1 := T3.out.b1.lt
               have l2 := S3.out.lt
               go_wp2
               go_roundw
               case rel => exact ⟨k + 1, by go_num, by omega, HZ2, T3⟩
               case measure => simp [intOf]; omega
              ·have z5 : (so != 0) = true := by simpa using k1
               have z6 : (so == 0) = false := by simpa using k1
               have HE := Lib.hid (HXB.out (by unfold symBad; rw [if_pos rfl, HZE.out, z6]; rfl))
               clear HXB HXG HB HY2
               clear k1
               go_wp2_with fail
               with_reducible refine (HEm _).out.mono ?_
               rintro e w3 ⟨rfl, hB3⟩
               have T3 := Lib.hid (TA.out.below hB3)
               have S3 := Lib.hid (SA.out.below hB3 SA.out.lt)
               have HBf := Lib.hid T3.out.bl
               clear hB3
               obtain ⟨c0, c1, c2, c3, c4⟩ := cells5' T3.out.b0
               obtain ⟨p0, p1, p2, p3, p4, p5, p6⟩ := cells7g T3.out.b1
               obtain ⟨s0, s1, s2, s3, s4, s5⟩ := cells6 S3.out
               have l0 := T3.out.b0.lt
               have l1 := T3.out.b1.lt
               have l2 := S3.out.lt
               go_wp2
               go_ret
               exact ⟨by rw [HE.out]; rfl, HBf.out⟩
            ·have z7 : (sk == 0) = false := by simpa using k0
             by_cases k2 : sk = 1
             ·subst k2
              cases z with
              | false =>
               have HE := Lib.hid (HXB.out (by unfold symBad; rw [if_neg k0, if_pos rfl, HZE.out]; rfl))
               clear HXB HXG HB HY2
               clear k0
               go_wp2_with fail
               with_reducible refine (HEm _).out.mono ?_
               rintro e w3 ⟨rfl, hB3⟩
               have T3 := Lib.hid (TA.out.below hB3)
               have S3 := Lib.hid (SA.out.below hB3 SA.out.lt)
               have HBf := Lib.hid T3.out.bl
               clear hB3
               obtain ⟨c0, c1, c2, c3, c4⟩ := cells5' T3.out.b0
               obtain ⟨p0, p1, p2, p3, p4, p5, p6⟩ := cells7g T3.out.b1
               obtain ⟨s0, s1, s2, s3, s4, s5⟩ := cells6 S3.out
               have l0 := T3.out.b0.lt
               have l1 := T3.out.b1.lt
               have l2 := S3.out.lt
               go_wp2
               go_ret
               exact ⟨by rw [HE.out]; rfl, HBf.out⟩
              | true =>
               obtain ⟨y, hy⟩ : ∃ y, y = numB so ns := ⟨_, rfl⟩
               have HYN := Lib.hid hy
               have HS1 : ∀ W, Hid (Calls Tryz.prog 41 #[.agg #[.slice g.sa ns g.sc, .slice g.pa g.prods.length g.pc, .int .i64 g.start, .slice g.fa g.forbid.length g.fc, .slice g.wa g.follow.length g.wc], .int .i64 so] W fun e w' => e = .returned (.bool y) ∧ Below W.heap.size W w') := fun W => Lib.hid (by rw [hy]; exact (HSo so W).out)
               clear hy HSo
               cases y with
               | false =>
                have HE := Lib.hid (HXB.out (by unfold symBad; rw [if_neg k0, if_pos rfl, HZE.out, ← HYN.out]; rfl))
                clear HXB HXG HB HY2
                clear k0
                go_wp2_with fail
                with_reducible refine (HEm _).out.mono ?_
                rintro e w3 ⟨rfl, hB3⟩
                have T3 := Lib.hid (TA.out.below hB3)
                have S3 := Lib.hid (SA.out.below hB3 SA.out.lt)
                have HBf := Lib.hid T3.out.bl
                clear hB3
                obtain ⟨c0, c1, c2, c3, c4⟩ := cells5' T3.out.b0
                obtain ⟨p0, p1, p2, p3, p4, p5, p6⟩ := cells7g T3.out.b1
                obtain ⟨s0, s1, s2, s3, s4, s5⟩ := cells6 S3.out
                have l0 := T3.out.b0.lt
                have l1 := T3.out.b1.lt
                have l2 := S3.out.lt
                go_wp2_with fail
                with_reducible refine (HS1 _).out.mono ?_
                rintro e w4 ⟨rfl, hB4⟩
                have T4 := Lib.hid (T3.out.below hB4)
                have S4 := Lib.hid (S3.out.below hB4 S3.out.lt)
                have HBf := Lib.hid T4.out.bl
                clear hB4 c0 c1 c2 c3 c4 p0 p1 p2 p3 p4 p5 p6 s0 s1 s2 s3 s4 s5 l0 l1 l2
                obtain ⟨c0, c1, c2, c3, c4⟩ := cells5' T4.out.b0
                obtain ⟨p0, p1, p2, p3, p4, p5, p6⟩ := cells7g T4.out.b1
                obtain ⟨s0, s1, s2, s3, s4, s5⟩ := cells6 S4.out
                have l0 := T4.out.b0.lt
                have l1 := T4.out.b1.lt
                have l2 := S4.out.lt
                go_wp2
                go_ret
                exact ⟨by rw [HE.out]; rfl, HBf.out⟩
               | true =>
                by_cases k3 : role = 11
                ·have z8 : (role == 11) = true := by simpa using k3
                 have HE := Lib.hid (HXB.out (by unfold symBad; rw [if_neg k0, if_pos rfl, HZE.out, ← HYN.out, z8]; rfl))
                 clear HXB HXG HB HY2
                 clear k0 k3
                 go_wp2_with fail
                 with_reducible refine (HEm _).out.mono ?_
                 rintro e w3 ⟨rfl, hB3⟩
                 have T3 := Lib.hid (TA.out.below hB3)
                 have S3 := Lib.hid (SA.out.below hB3 SA.out.lt)
                 have HBf := Lib.hid T3.out.bl
                 clear hB3
                 obtain ⟨c0, c1, c2, c3, c4⟩ := cells5' T3.out.b0
                 obtain ⟨p0, p1, p2, p3, p4, p5, p6⟩ := cells7g T3.out.b1
                 obtain ⟨s0, s1, s2, s3, s4, s5⟩ := cells6 S3.out
                 have l0 := T3.out.b0.lt
                 have l1 := T3.out.b1.lt
                 have l2 := S3.out.lt
                 go_wp2_with fail
                 with_reducible refine (HS1 _).out.mono ?_
                 rintro e w4 ⟨rfl, hB4⟩
                 have T4 := Lib.hid (T3.out.below hB4)
                 have S4 := Lib.hid (S3.out.below hB4 S3.out.lt)
                 have HBf := Lib.hid T4.out.bl
                 clear hB4 c0 c1 c2 c3 c4 p0 p1 p2 p3 p4 p5 p6 s0 s1 s2 s3 s4 s5 l0 l1 l2
                 obtain ⟨c0, c1, c2, c3, c4⟩ := cells5' T4.out.b0
                 obtain ⟨p0, p1, p2, p3, p4, p5, p6⟩ := cells7g T4.out.b1
                 obtain ⟨s0, s1, s2, s3, s4, s5⟩ := cells6 S4.out
                 have l0 := T4.out.b0.lt
                 have l1 := T4.out.b1.lt
                 have l2 := S4.out.lt
                 go_wp2
                 go_ret
                 exact ⟨by rw [HE.out]; rfl, HBf.out⟩
                ·have z8 : (role == 11) = false := by simpa using k3
                 have HZ2 := Lib.hid (HXG.out (by unfold symBad; rw [if_neg k0, if_pos rfl, HZE.out, ← HYN.out, z8]; rfl))
                 clear HXB HXG
                 clear k0 k3
                 go_wp2_with fail
                 with_reducible refine (HEm _).out.mono ?_
                 rintro e w3 ⟨rfl, hB3⟩
                 have T3 := Lib.hid (TA.out.below hB3)
                 have S3 := Lib.hid (SA.out.below hB3 SA.out.lt)
                 have HBf := Lib.hid T3.out.bl
                 clear hB3
                 obtain ⟨c0, c1, c2, c3, c4⟩ := cells5' T3.out.b0
                 obtain ⟨p0, p1, p2, p3, p4, p5, p6⟩ := cells7g T3.out.b1
                 obtain ⟨s0, s1, s2, s3, s4, s5⟩ := cells6 S3.out
                 have l0 := T3.out.b0.lt
                 have l1 := T3.out.b1.lt
                 have l2 := S3.out.lt
                 go_wp2_with fail
                 with_reducible refine (HS1 _).out.mono ?_
                 rintro e w4 ⟨rfl, hB4⟩
                 have T4 := Lib.hid (T3.out.below hB4)
                 have S4 := Lib.hid (S3.out.below hB4 S3.out.lt)
                 have HBf := Lib.hid T4.out.bl
                 clear hB4 c0 c1 c2 c3 c4 p0 p1 p2 p3 p4 p5 p6 s0 s1 s2 s3 s4 s5 l0 l1 l2
                 obtain ⟨c0, c1, c2, c3, c4⟩ := cells5' T4.out.b0
                 obtain ⟨p0, p1, p2, p3, p4, p5, p6⟩ := cells7g T4.out.b1
                 obtain ⟨s0, s1, s2, s3, s4, s5⟩ := cells6 S4.out
                 have l0 := T4.out.b0.lt
                 have l1 := T4.out.b1.lt
                 have l2 := S4.out.lt
                 go_wp2
                 go_roundw
                 case rel => exact ⟨k + 1, by go_num, by omega, HZ2, T4⟩
                 case measure => simp [intOf]; omega
             ·have z9 : (sk == 1) = false := by simpa using k2
              have z10 : (sk != 0) = true := by simpa using k0
              have z11 : (sk != 1) = true := by simpa using k2
              have HE := Lib.hid (HXB.out (by unfold symBad; rw [if_neg k0, if_neg k2]))
              clear HXB HXG HB HY2
              clear k0 k2
              have HBf := Lib.hid TA.out.bl
              go_wp2
              go_ret
              exact ⟨by rw [HE.out]; rfl, HBf.out⟩
           ·have HE := Lib.hid (HY2.out (fun i s hs => hS.out i s (by have := (List.getElem?_eq_some_iff.1 hs).1; have := HM.out; omega) hs))
            obtain rfl : k = m := by omega
            clear hS HB HY2
            go_wp2
            go_ret
            exact ⟨by rw [HE.out]; rfl, T.out.bl⟩
         | true =>
          have HE : Hid (q = false) := Lib.hid (HF.out (by rw [HU.out]; simp []))
          clear HF HB HY HU
          go_enter Tryz.func42, Tryz.ntmps42
          go_wp2_with fail
          with_reducible refine HS0.out.mono ?_
          rintro e w1 ⟨rfl, hB1⟩
          have T := Lib.hid (T0.out.below hB1)
          clear hB1 T0 HS0
          obtain ⟨c0, c1, c2, c3, c4⟩ := cells5' T.out.b0
          obtain ⟨p0, p1, p2, p3, p4, p5, p6⟩ := cells7g T.out.b1
          have l0 := T.out.b0.lt
          have l1 := T.out.b1.lt
          go_wp2
          go_ret
          exact ⟨by rw [HE.out]; rfl, T.out.bl⟩
       | false =>
        have z1 : ¬ cons.toList = [] := by simpa using he
        by_cases hz : role = 0
        ·have hz2 : (role == 0) = true := by simpa using hz
         have hz3 : (role != 0) = false := by simpa using hz
         have Hz := Lib.hid hz
         clear hz
         cases prefer with
         | false =>
          have HE0 : Hid (rfirstB _ _ = false) := Lib.hid (by rw [HU.out]; simp [h1, h2, h3, h4, h5, he, hz2])
          have HY2 := Lib.hid (HY.out HE0.out)
          clear HF HY HU HE0
          go_enter Tryz.func42, Tryz.ntmps42
          go_wp2_with fail
          with_reducible refine HS0.out.mono ?_
          rintro e w1 ⟨rfl, hB1⟩
          have T := Lib.hid (T0.out.below hB1)
          clear hB1 T0 HS0
          obtain ⟨c0, c1, c2, c3, c4⟩ := cells5' T.out.b0
          obtain ⟨p0, p1, p2, p3, p4, p5, p6⟩ := cells7g T.out.b1
          have l0 := T.out.b0.lt
          have l1 := T.out.b1.lt
          go_wp2
          go_loopw [5] (fun i wr => ∃ k : Nat, i = .int .i64 k ∧ k ≤ m ∧ Hid (∀ (i : Nat) (s : SymM), i < k → right[i]? = some s → symBad ns role s = false) ∧ Hid (TwoG w wr #[.slice g.sa ns g.sc, .slice g.pa g.prods.length g.pc, .int .i64 g.start, .slice g.fa g.forbid.length g.fc, .slice g.wa g.follow.length g.wc] 65 #[.int .i64 left, .slice ra m rc, .string cons, .int .i64 role, .bool false, .bool avoid, .int .i64 frm])) (fun i _ => m - (intOf i).toNat)
          case atStart => exact ⟨0, rfl, Nat.zero_le _, Lib.hid (fun j s hj => by omega), T⟩
          case round =>
           clear T c0 c1 c2 c3 c4 p0 p1 p2 p3 p4 p5 p6 l0 l1
           obtain ⟨k, rfl, hk, hS, T⟩ := hrel
           obtain ⟨c0, c1, c2, c3, c4⟩ := cells5' T.out.b0
           obtain ⟨p0, p1, p2, p3, p4, p5, p6⟩ := cells7g T.out.b1
           have l0 := T.out.b0.lt
           have l1 := T.out.b1.lt
           by_cases hlt : k < m
           ·obtain ⟨s, hs⟩ : ∃ s, right[k]? = some s := ⟨_, List.getElem?_eq_getElem (by rw [← HM.out]; exact hlt)⟩
            obtain ⟨b1, o1, e1, hb1, hc1, _⟩ := HX.out k s hs
            obtain ⟨x0, x1, x2, x3, x4, x5⟩ := Sym_at (hc1.below T.out.bl hb1)
            have hb1' := Nat.lt_of_lt_of_le hb1 T.out.bl.size
            have HXB : Hid (symBad ns role s = true → q = false) := Lib.hid (HB.out k s hs)
            have HXG : Hid (symBad ns role s = false → ∀ (i : Nat) (s : SymM), i < k + 1 → right[i]? = some s → symBad ns role s = false) := Lib.hid (fun h i y hi hy => by
             by_cases e : i = k
             ·subst e; rw [hs] at hy; cases hy; exact h
             ·exact hS.out i y (by omega) hy)
            have z1 : (k : Int) < (m : Int) := by omega
            have z0 : (0 : Int) ≤ (k : Int) := by omega
            rw [e1] at p1
            clear hs hc1 hS e1
            obtain ⟨sk, ss, so⟩ := s
            dsimp only at *
            obtain ⟨z, hz⟩ : ∃ z, z = (ss == 0#256) := ⟨_, rfl⟩
            have HZE : Hid ((ss == 0#256) = z) := Lib.hid hz.symm
            have HEm : ∀ W, Hid (Calls Tryz.prog 44 #[.agg #[.int .u64 (wdI ss 0), .int .u64 (wdI ss 1), .int .u64 (wdI ss 2), .int .u64 (wdI ss 3)]] W fun e w' => e = .returned (.bool z) ∧ Below W.heap.size W w') := fun W => Lib.hid (by rw [hz]; exact empty_any ss W)
            have hA : Below wr.heap.size wr (wr.alloc (.cells #[.int .i64 sk, .int .u64 (wdI ss 0), .int .u64 (wdI ss 1), .int .u64 (wdI ss 2), .int .u64 (wdI ss 3), .int .i64 so] 60)) := (Below.refl _ wr).alloc (Nat.le_refl _) _
            have TA := Lib.hid (T.out.below hA)
            have SA := Lib.hid (Blk.new wr 60 #[.int .i64 sk, .int .u64 (wdI ss 0), .int .u64 (wdI ss 1), .int .u64 (wdI ss 2), .int .u64 (wdI ss 3), .int .i64 so])
            clear hz hA T
            by_cases k0 : sk = 0
            ·subst k0
             cases z with
             | true =>
              have HE := Lib.hid (HXB.out (by unfold symBad; rw [if_pos rfl, HZE.out]; rfl))
              clear HXB HXG HB HY2
              go_wp2_with fail
              with_reducible refine (HEm _).out.mono ?_
              rintro e w3 ⟨rfl, hB3⟩
              have T3 := Lib.hid (TA.out.below hB3)
              have S3 := Lib.hid (SA.out.below hB3 SA.out.lt)
              have HBf := Lib.hid T3.out.bl
              clear hB3
              obtain ⟨c0, c1, c2, c3, c4⟩ := cells5' T3.out.b0
              obtain ⟨p0, p1, p2, p3, p4, p5, p6⟩ := cells7g T3.out.b1
              obtain ⟨s0, s1, s2, s3, s4, s5⟩ := cells6 S3.out
              have l0 := T3.out.b0.lt
              have l1 := T3.out.b1.lt
              have l2 := S3.out.lt
              go_wp2
              go_ret
              exact ⟨by rw [HE.out]; rfl, HBf.out⟩
             | false =>
              by_cases k1 : so = 0
              ·subst k1
               have HZ2 := Lib.hid (HXG.out (by unfold symBad; rw [if_pos rfl, HZE.out]; rfl))
               clear HXB HXG
               go_wp2_with fail
               with_reducible refine (HEm _).out.mono ?_
               rintro e w3 ⟨rfl, hB3⟩
               have T3 := Lib.hid (TA.out.below hB3)
               have S3 := Lib.hid (SA.out.below hB3 SA.out.lt)
               have HBf := Lib.hid T3.out.bl
               clear hB3
               obtain ⟨c0, c1, c2, c3, c4⟩ := cells5' T3.out.b0
               obtain ⟨p0, p1, p2, p3, p4, p5, p6⟩ := cells7g T3.out.b1
               obtain ⟨s0, s1, s2, s3, s4, s5⟩ := cells6 S3.out
               have l0 := T3.out.b0.lt
               have l1 := T3.out.b1.lt
               have l2 := S3.out.lt
               go_wp2
               go_roundw
               case rel => exact ⟨k + 1, by go_num, by omega, HZ2, T3⟩
               case measure => simp [intOf]; omega
              ·have z5 : (so != 0) = true := by simpa using k1
               have z6 : (so == 0) = false := by simpa using k1
               have HE := Lib.hid (HXB.out (by unfold symBad; rw [if_pos rfl, HZE.out, z6]; rfl))
               clear HXB HXG HB HY2
               clear k1
               go_wp2_with fail
               with_reducible refine (HEm _).out.mono ?_
               rintro e w3 ⟨rfl, hB3⟩
               have T3 := Lib.hid (TA.out.below hB3)
               have S3 := Lib.hid (SA.out.below hB3 SA.out.lt)
               have HBf := Lib.hid T3.out.bl
               clear hB3
               obtain ⟨c0, c1, c2, c3, c4⟩ := cells5' T3.out.b0
               obtain ⟨p0, p1, p2, p3, p4, p5, p6⟩ := cells7g T3.out.b1
               obtain ⟨s0, s1, s2, s3, s4, s5⟩ := cells6 S3.out
               have l0 := T3.out.b0.lt
               have l1 := T3.out.b1.lt
               have l2 := S3.out.lt
               go_wp2
               go_ret
               exact ⟨by rw [HE.out]; rfl, HBf.out⟩
            ·have z7 : (sk == 0) = false := by simpa using k0
             by_cases k2 : sk = 1
             ·subst k2
              cases z with
              | false =>
               have HE := Lib.hid (HXB.out (by unfold symBad; rw [if_neg k0, if_pos rfl, HZE.out]; rfl))
               clear HXB HXG HB HY2
               clear k0
               go_wp2_with fail
               with_reducible refine (HEm _).out.mono ?_
               rintro e w3 ⟨rfl, hB3⟩
               have T3 := Lib.hid (TA.out.below hB3)
               have S3 := Lib.hid (SA.out.below hB3 SA.out.lt)
               have HBf := Lib.hid T3.out.bl
               clear hB3
               obtain ⟨c0, c1, c2, c3, c4⟩ := cells5' T3.out.b0
               obtain ⟨p0, p1, p2, p3, p4, p5, p6⟩ := cells7g T3.out.b1
               obtain ⟨s0, s1, s2, s3, s4, s5⟩ := cells6 S3.out
               have l0 := T3.out.b0.lt
               have l1 := T3.out.b1.lt
               have l2 := S3.out.lt
               go_wp2
               go_ret
               exact ⟨by rw [HE.out]; rfl, HBf.out⟩
              | true =>
               obtain ⟨y, hy⟩ : ∃ y, y = numB so ns := ⟨_, rfl⟩
               have HYN := Lib.hid hy
               have HS1 : ∀ W, Hid (Calls Tryz.prog 41 #[.agg #[.slice g.sa ns g.sc, .slice g.pa g.prods.length g.pc, .int .i64 g.start, .slice g.fa g.forbid.length g.fc, .slice g.wa g.follow.length g.wc], .int .i64 so] W fun e w' => e = .returned (.bool y) ∧ Below W.heap.size W w') := fun W => Lib.hid (by rw [hy]; exact (HSo so W).out)
               clear hy HSo
               cases y with
               | false =>
                have HE := Lib.hid (HXB.out (by unfold symBad; rw [if_neg k0, if_pos rfl, HZE.out, ← HYN.out]; rfl))
                clear HXB HXG HB HY2
                clear k0
                go_wp2_with fail
                with_reducible refine (HEm _).out.mono ?_
                rintro e w3 ⟨rfl, hB3⟩
                have T3 := Lib.hid (TA.out.below hB3)
                have S3 := Lib.hid (SA.out.below hB3 SA.out.lt)
                have HBf := Lib.hid T3.out.bl
                clear hB3
                obtain ⟨c0, c1, c2, c3, c4⟩ := cells5' T3.out.b0
                obtain ⟨p0, p1, p2, p3, p4, p5, p6⟩ := cells7g T3.out.b1
                obtain ⟨s0, s1, s2, s3, s4, s5⟩ := cells6 S3.out
                have l0 := T3.out.b0.lt
                have l1 := T3.out.b1.lt
                have l2 := S3.out.lt
                go_wp2_with fail
                with_reducible refine (HS1 _).out.mono ?_
                rintro e w4 ⟨rfl, hB4⟩
                have T4 := Lib.hid (T3.out.below hB4)
                have S4 := Lib.hid (S3.out.below hB4 S3.out.lt)
                have HBf := Lib.hid T4.out.bl
                clear hB4 c0 c1 c2 c3 c4 p0 p1 p2 p3 p4 p5 p6 s0 s1 s2 s3 s4 s5 l0 l1 l2
                obtain ⟨c0, c1, c2, c3, c4⟩ := cells5' T4.out.b0
                obtain ⟨p0, p1, p2, p3, p4, p5, p6⟩ := cells7g T4.out.b1
                obtain ⟨s0, s1, s2, s3, s4, s5⟩ := cells6 S4.out
                have l0 := T4.out.b0.lt
                have l1 := T4.out.b1.lt
                have l2 := S4.out.lt
                go_wp2
                go_ret
                exact ⟨by rw [HE.out]; rfl, HBf.out⟩
               | true =>
                by_cases k3 : role = 11
                ·have z8 : (role == 11) = true := by simpa using k3
                 have HE := Lib.hid (HXB.out (by unfold symBad; rw [if_neg k0, if_pos rfl, HZE.out, ← HYN.out, z8]; rfl))
                 clear HXB HXG HB HY2
                 clear k0 k3
                 go_wp2_with fail
                 with_reducible refine (HEm _).out.mono ?_
                 rintro e w3 ⟨rfl, hB3⟩
                 have T3 := Lib.hid (TA.out.below hB3)
                 have S3 := Lib.hid (SA.out.below hB3 SA.out.lt)
                 have HBf := Lib.hid T3.out.bl
                 clear hB3
                 obtain ⟨c0, c1, c2, c3, c4⟩ := cells5' T3.out.b0
                 obtain ⟨p0, p1, p2, p3, p4, p5, p6⟩ := cells7g T3.out.b1
                 obtain ⟨s0, s1, s2, s3, s4, s5⟩ := cells6 S3.out
                 have l0 := T3.out.b0.lt
                 have l1 := T3.out.b1.lt
                 have l2 := S3.out.lt
                 go_wp2_with fail
                 with_reducible refine (HS1 _).out.mono ?_
                 rintro e w4 ⟨rfl, hB4⟩
                 have T4 := Lib.hid (T3.out.below hB4)
                 have S4 := Lib.hid (S3.out.below hB4 S3.out.lt)
                 have HBf := Lib.hid T4.out.bl
                 clear hB4 c0 c1 c2 c3 c4 p0 p1 p2 p3 p4 p5 p6 s0 s1 s2 s3 s4 s5 l0 l1 l2
                 obtain ⟨c0, c1, c2, c3, c4⟩ := cells5' T4.out.b0
                 obtain ⟨p0, p1, p2, p3, p4, p5, p6⟩ := cells7g T4.out.b1
                 obtain ⟨s0, s1, s2, s3, s4, s5⟩ := cells6 S4.out
                 have l0 := T4.out.b0.lt
                 have l1 := T4.out.b1.lt
                 have l2 := S4.out.lt
                 go_wp2
                 go_ret
                 exact ⟨by rw [HE.out]; rfl, HBf.out⟩
                ·have z8 : (role == 11) = false := by simpa using k3
                 have HZ2 := Lib.hid (HXG.out (by unfold symBad; rw [if_neg k0, if_pos rfl, HZE.out, ← HYN.out, z8]; rfl))
                 clear HXB HXG
                 clear k0 k3
                 go_wp2_with fail
                 with_reducible refine (HEm _).out.mono ?_
                 rintro e w3 ⟨rfl, hB3⟩
                 have T3 := Lib.hid (TA.out.below hB3)
                 have S3 := Lib.hid (SA.out.below hB3 SA.out.lt)
                 have HBf := Lib.hid T3.out.bl
                 clear hB3
                 obtain ⟨c0, c1, c2, c3, c4⟩ := cells5' T3.out.b0
                 obtain ⟨p0, p1, p2, p3, p4, p5, p6⟩ := cells7g T3.out.b1
                 obtain ⟨s0, s1, s2, s3, s4, s5⟩ := cells6 S3.out
                 have l0 := T3.out.b0.lt
                 have l1 := T3.out.b1.lt
                 have l2 := S3.out.lt
                 go_wp2_with fail
                 with_reducible refine (HS1 _).out.mono ?_
                 rintro e w4 ⟨rfl, hB4⟩
                 have T4 := Lib.hid (T3.out.below hB4)
                 have S4 := Lib.hid (S3.out.below hB4 S3.out.lt)
                 have HBf := Lib.hid T4.out.bl
                 clear hB4 c0 c1 c2 c3 c4 p0 p1 p2 p3 p4 p5 p6 s0 s1 s2 s3 s4 s5 l0 l1 l2
                 obtain ⟨c0, c1, c2, c3, c4⟩ := cells5' T4.out.b0
                 obtain ⟨p0, p1, p2, p3, p4, p5, p6⟩ := cells7g T4.out.b1
                 obtain ⟨s0, s1, s2, s3, s4, s5⟩ := cells6 S4.out
                 have l0 := T4.out.b0.lt
                 have l1 := T4.out.b1.lt
                 have l2 := S4.out.lt
                 go_wp2
                 go_roundw
                 case rel => exact ⟨k + 1, by go_num, by omega, HZ2, T4⟩
                 case measure => simp [intOf]; omega
             ·have z9 : (sk == 1) = false := by simpa using k2
              have z10 : (sk != 0) = true := by simpa using k0
              have z11 : (sk != 1) = true := by simpa using k2
              have HE := Lib.hid (HXB.out (by unfold symBad; rw [if_neg k0, if_neg k2]))
              clear HXB HXG HB HY2
              clear k0 k2
              have HBf := Lib.hid TA.out.bl
              go_wp2
              go_ret
              exact ⟨by rw [HE.out]; rfl, HBf.out⟩
           ·have HE := Lib.hid (HY2.out (fun i s hs => hS.out i s (by have := (List.getElem?_eq_some_iff.1 hs).1; have := HM.out; omega) hs))
            obtain rfl : k = m := by omega
            clear hS HB HY2
            go_wp2
            go_ret
            exact ⟨by rw [HE.out]; rfl, T.out.bl⟩
         | true =>
          cases avoid with
          | false =>
           have HE0 : Hid (rfirstB _ _ = false) := Lib.hid (by rw [HU.out]; simp [h1, h2, h3, h4, h5, he, hz2])
           have HY2 := Lib.hid (HY.out HE0.out)
           clear HF HY HU HE0
           go_enter Tryz.func42, Tryz.ntmps42
           go_wp2_with fail
           with_reducible refine HS0.out.mono ?_
           rintro e w1 ⟨rfl, hB1⟩
           have T := Lib.hid (T0.out.below hB1)
           clear hB1 T0 HS0
           obtain ⟨c0, c1, c2, c3, c4⟩ := cells5' T.out.b0
           obtain ⟨p0, p1, p2, p3, p4, p5, p6⟩ := cells7g T.out.b1
           have l0 := T.out.b0.lt
           have l1 := T.out.b1.lt
           go_wp2
           go_loopw [5] (fun i wr => ∃ k : Nat, i = .int .i64 k ∧ k ≤ m ∧ Hid (∀ (i : Nat) (s : SymM), i < k → right[i]? = some s → symBad ns role s = false) ∧ Hid (TwoG w wr #[.slice g.sa ns g.sc, .slice g.pa g.prods.length g.pc, .int .i64 g.start, .slice g.fa g.forbid.length g.fc, .slice g.wa g.follow.length g.wc] 65 #[.int .i64 left, .slice ra m rc, .string cons, .int .i64 role, .bool true, .bool false, .int .i64 frm])) (fun i _ => m - (intOf i).toNat)
           case atStart => exact ⟨0, rfl, Nat.zero_le _, Lib.hid (fun j s hj => by omega), T⟩
           case round =>
            clear T c0 c1 c2 c3 c4 p0 p1 p2 p3 p4 p5 p6 l0 l1
            obtain ⟨k, rfl, hk, hS, T⟩ := hrel
            obtain ⟨c0, c1, c2, c3, c4⟩ := cells5' T.out.b0
            obtain ⟨p0, p1, p2, p3, p4, p5, p6⟩ := cells7g T.out.b1
            have l0 := T.out.b0.lt
            have l1 := T.out.b1.lt
            by_cases hlt : k < m
            ·obtain ⟨s, hs⟩ : ∃ s, right[k]? = some s := ⟨_, List.getElem?_eq_getElem (by rw [← HM.out]; exact hlt)⟩
             obtain ⟨b1, o1, e1, hb1, hc1, _⟩ := HX.out k s hs
             obtain ⟨x0, x1, x2, x3, x4, x5⟩ := Sym_at (hc1.below T.out.bl hb1)
             have hb1' := Nat.lt_of_lt_of_le hb1 T.out.bl.size
             have HXB : Hid (symBad ns role s = true → q = false) := Lib.hid (HB.out k s hs)
             have HXG : Hid (symBad ns role s = false → ∀ (i : Nat) (s : SymM), i < k + 1 → right[i]? = some s → symBad ns role s = false) := Lib.hid (fun h i y hi hy => by
              by_cases e : i = k
              ·subst e; rw [hs] at hy; cases hy; exact h
              ·exact hS.out i y (by omega) hy)
             have z1 : (k : Int) < (m : Int) := by omega
             have z0 : (0 : Int) ≤ (k : Int) := by omega
             rw [e1] at p1
             clear hs hc1 hS e1
             obtain ⟨sk, ss, so⟩ := s
             dsimp only at *
             obtain ⟨z, hz⟩ : ∃ z, z = (ss == 0#256) := ⟨_, rfl⟩
             have HZE : Hid ((ss == 0#256) = z) := Lib.hid hz.symm
             have HEm : ∀ W, Hid (Calls Tryz.prog 44 #[.agg #[.int .u64 (wdI ss 0), .int .u64 (wdI ss 1), .int .u64 (wdI ss 2), .int .u64 (wdI ss 3)]] W fun e w' => e = .returned (.bool z) ∧ Below W.heap.size W w') := fun W => Lib.hid (by rw [hz]; exact empty_any ss W)
             have hA : Below wr.heap.size wr (wr.alloc (.cells #[.int .i64 sk, .int .u64 (wdI ss 0), .int .u64 (wdI ss 1), .int .u64 (wdI ss 2), .int .u64 (wdI ss 3), .int .i64 so] 60)) := (Below.refl _ wr).alloc (Nat.le_refl _) _
             have TA := Lib.hid (T.out.below hA)
             have SA := Lib.hid (Blk.new wr 60 #[.int .i64 sk, .int .u64 (wdI ss 0), .int .u64 (wdI ss 1), .int .u64 (wdI ss 2), .int .u64 (wdI ss 3), .int .i64 so])
             clear hz hA T
             by_cases k0 : sk = 0
             ·subst k0
              cases z with
              | true =>
               have HE := Lib.hid (HXB.out (by unfold symBad; rw [if_pos rfl, HZE.out]; rfl))
               clear HXB HXG HB HY2
               go_wp2_with fail
               with_reducible refine (HEm _).out.mono ?_
               rintro e w3 ⟨rfl, hB3⟩
               have T3 := Lib.hid (TA.out.below hB3)
               have S3 := Lib.hid (SA.out.below hB3 SA.out.lt)
               have HBf := Lib.hid T3.out.bl
               clear hB3
               obtain ⟨c0, c1, c2, c3, c4⟩ := cells5' T3.out.b0
               obtain ⟨p0, p1, p2, p3, p4, p5, p6⟩ := cells7g T3.out.b1
               obtain ⟨s0, s1, s2, s3, s4, s5⟩ := cells6 S3.out
               have l0 := T3.out.b0.lt
               have l1 := T3.out.b1.lt
               have l2 := S3.out.lt
               go_wp2
               go_ret
               exact ⟨by rw [HE.out]; rfl, HBf.out⟩
              | false =>
               by_cases k1 : so = 0
               ·subst k1
                have HZ2 := Lib.hid (HXG.out (by unfold symBad; rw [if_pos rfl, HZE.out]; rfl))
                clear HXB HXG
                go_wp2_with fail
                with_reducible refine (HEm _).out.mono ?_
                rintro e w3 ⟨rfl, hB3⟩
                have T3 := Lib.hid (TA.out.below hB3)
                have S3 := Lib.hid (SA.out.below hB3 SA.out.lt)
                have HBf := Lib.hid T3.out.bl
                clear hB3
                obtain ⟨c0, c1, c2, c3, c4⟩ := cells5' T3.out.b0
                obtain ⟨p0, p1, p2, p3, p4, p5, p6⟩ := cells7g T3.out.b1
                obtain ⟨s0, s1, s2, s3, s4, s5⟩ := cells6 S3.out
                have l0 := T3.out.b0.lt
                have l1 := T3.out.b1.lt
                have l2 := S3.out.lt
                go_wp2
                go_roundw
                case rel => exact ⟨k + 1, by go_num, by omega, HZ2, T3⟩
                case measure => simp [intOf]; omega
               ·have z5 : (so != 0) = true := by simpa using k1
                have z6 : (so == 0) = false := by simpa using k1
                have HE := Lib.hid (HXB.out (by unfold symBad; rw [if_pos rfl, HZE.out, z6]; rfl))
                clear HXB HXG HB HY2
                clear k1
                go_wp2_with fail
                with_reducible refine (HEm _).out.mono ?_
                rintro e w3 ⟨rfl, hB3⟩
                have T3 := Lib.hid (TA.out.below hB3)
                have S3 := Lib.hid (SA.out.below hB3 SA.out.lt)
                have HBf := Lib.hid T3.out.bl
                clear hB3
                obtain ⟨c0, c1, c2, c3, c4⟩ := cells5' T3.out.b0
                obtain ⟨p0, p1, p2, p3, p4, p5, p6⟩ := cells7g T3.out.b1
                obtain ⟨s0, s1, s2, s3, s4, s5⟩ := cells6 S3.out
                have l0 := T3.out.b0.lt
                have l1 := T3.out.b1.lt
                have l2 := S3.out.lt
                go_wp2
                go_ret
                exact ⟨by rw [HE.out]; rfl, HBf.out⟩
             ·have z7 : (sk == 0) = false := by simpa using k0
              by_cases k2 : sk = 1
              ·subst k2
               cases z with
               | false =>
                have HE := Lib.hid (HXB.out (by unfold symBad; rw [if_neg k0, if_pos rfl, HZE.out]; rfl))
                clear HXB HXG HB HY2
                clear k0
                go_wp2_with fail
                with_reducible refine (HEm _).out.mono ?_
                rintro e w3 ⟨rfl, hB3⟩
                have T3 := Lib.hid (TA.out.below hB3)
                have S3 := Lib.hid (SA.out.below hB3 SA.out.lt)
                have HBf := Lib.hid T3.out.bl
                clear hB3
                obtain ⟨c0, c1, c2, c3, c4⟩ := cells5' T3.out.b0
                obtain ⟨p0, p1, p2, p3, p4, p5, p6⟩ := cells7g T3.out.b1
                obtain ⟨s0, s1, s2, s3, s4, s5⟩ := cells6 S3.out
                have l0 := T3.out.b0.lt
                have l1 := T3.out.b1.lt
                have l2 := S3.out.lt
                go_wp2
                go_ret
                exact ⟨by rw [HE.out]; rfl, HBf.out⟩
               | true =>
                obtain ⟨y, hy⟩ : ∃ y, y = numB so ns := ⟨_, rfl⟩
                have HYN := Lib.hid hy
                have HS1 : ∀ W, Hid (Calls Tryz.prog 41 #[.agg #[.slice g.sa ns g.sc, .slice g.pa g.prods.length g.pc, .int .i64 g.start, .slice g.fa g.forbid.length g.fc, .slice g.wa g.follow.length g.wc], .int .i64 so] W fun e w' => e = .returned (.bool y) ∧ Below W.heap.size W w') := fun W => Lib.hid (by rw [hy]; exact (HSo so W).out)
                clear hy HSo
                cases y with
                | false =>
                 have HE := Lib.hid (HXB.out (by unfold symBad; rw [if_neg k0, if_pos rfl, HZE.out, ← HYN.out]; rfl))
                 clear HXB HXG HB HY2
                 clear k0
                 go_wp2_with fail
                 with_reducible refine (HEm _).out.mono ?_
                 rintro e w3 ⟨rfl, hB3⟩
                 have T3 := Lib.hid (TA.out.below hB3)
                 have S3 := Lib.hid (SA.out.below hB3 SA.out.lt)
                 have HBf := Lib.hid T3.out.bl
                 clear hB3
                 obtain ⟨c0, c1, c2, c3, c4⟩ := cells5' T3.out.b0
                 obtain ⟨p0, p1, p2, p3, p4, p5, p6⟩ := cells7g T3.out.b1
                 obtain ⟨s0, s1, s2, s3, s4, s5⟩ := cells6 S3.out
                 have l0 := T3.out.b0.lt
                 have l1 := T3.out.b1.lt
                 have l2 := S3.out.lt
                 go_wp2_with fail
                 with_reducible refine (HS1 _).out.mono ?_
                 rintro e w4 ⟨rfl, hB4⟩
                 have T4 := Lib.hid (T3.out.below hB4)
                 have S4 := Lib.hid (S3.out.below hB4 S3.out.lt)
                 have HBf := Lib.hid T4.out.bl
                 clear hB4 c0 c1 c2 c3 c4 p0 p1 p2 p3 p4 p5 p6 s0 s1 s2 s3 s4 s5 l0 l1 l2
                 obtain ⟨c0, c1, c2, c3, c4⟩ := cells5' T4.out.b0
                 obtain ⟨p0, p1, p2, p3, p4, p5, p6⟩ := cells7g T4.out.b1
                 obtain ⟨s0, s1, s2, s3, s4, s5⟩ := cells6 S4.out
                 have l0 := T4.out.b0.lt
                 have l1 := T4.out.b1.lt
                 have l2 := S4.out.lt
                 go_wp2
                 go_ret
                 exact ⟨by rw [HE.out]; rfl, HBf.out⟩
                | true =>
                 by_cases k3 : role = 11
                 ·have z8 : (role == 11) = true := by simpa using k3
                  have HE := Lib.hid (HXB.out (by unfold symBad; rw [if_neg k0, if_pos rfl, HZE.out, ← HYN.out, z8]; rfl))
                  clear HXB HXG HB HY2
                  clear k0 k3
                  go_wp2_with fail
                  with_reducible refine (HEm _).out.mono ?_
                  rintro e w3 ⟨rfl, hB3⟩
                  have T3 := Lib.hid (TA.out.below hB3)
                  have S3 := Lib.hid (SA.out.below hB3 SA.out.lt)
                  have HBf := Lib.hid T3.out.bl
                  clear hB3
                  obtain ⟨c0, c1, c2, c3, c4⟩ := cells5' T3.out.b0
                  obtain ⟨p0, p1, p2, p3, p4, p5, p6⟩ := cells7g T3.out.b1
                  obtain ⟨s0, s1, s2, s3, s4, s5⟩ := cells6 S3.out
                  have l0 := T3.out.b0.lt
                  have l1 := T3.out.b1.lt
                  have l2 := S3.out.lt
                  go_wp2_with fail
                  with_reducible refine (HS1 _).out.mono ?_
                  rintro e w4 ⟨rfl, hB4⟩
                  have T4 := Lib.hid (T3.out.below hB4)
                  have S4 := Lib.hid (S3.out.below hB4 S3.out.lt)
                  have HBf := Lib.hid T4.out.bl
                  clear hB4 c0 c1 c2 c3 c4 p0 p1 p2 p3 p4 p5 p6 s0 s1 s2 s3 s4 s5 l0 l1 l2
                  obtain ⟨c0, c1, c2, c3, c4⟩ := cells5' T4.out.b0
                  obtain ⟨p0, p1, p2, p3, p4, p5, p6⟩ := cells7g T4.out.b1
                  obtain ⟨s0, s1, s2, s3, s4, s5⟩ := cells6 S4.out
                  have l0 := T4.out.b0.lt
                  have l1 := T4.out.b1.lt
                  have l2 := S4.out.lt
                  go_wp2
                  go_ret
                  exact ⟨by rw [HE.out]; rfl, HBf.out⟩
                 ·have z8 : (role == 11) = false := by simpa using k3
                  have HZ2 := Lib.hid (HXG.out (by unfold symBad; rw [if_neg k0, if_pos rfl, HZE.out, ← HYN.out, z8]; rfl))
                  clear HXB HXG
                  clear k0 k3
                  go_wp2_with fail
                  with_reducible refine (HEm _).out.mono ?_
                  rintro e w3 ⟨rfl, hB3⟩
                  have T3 := Lib.hid (TA.out.below hB3)
                  have S3 := Lib.hid (SA.out.below hB3 SA.out.lt)
                  have HBf := Lib.hid T3.out.bl
                  clear hB3
                  obtain ⟨c0, c1, c2, c3, c4⟩ := cells5' T3.out.b0
                  obtain ⟨p0, p1, p2, p3, p4, p5, p6⟩ := cells7g T3.out.b1
                  obtain ⟨s0, s1, s2, s3, s4, s5⟩ := cells6 S3.out
                  have l0 := T3.out.b0.lt
                  have l1 := T3.out.b1.lt
                  have l2 := S3.out.lt
                  go_wp2_with fail
                  with_reducible refine (HS1 _).out.mono ?_
                  rintro e w4 ⟨rfl, hB4⟩
                  have T4 := Lib.hid (T3.out.below hB4)
                  have S4 := Lib.hid (S3.out.below hB4 S3.out.lt)
                  have HBf := Lib.hid T4.out.bl
                  clear hB4 c0 c1 c2 c3 c4 p0 p1 p2 p3 p4 p5 p6 s0 s1 s2 s3 s4 s5 l0 l1 l2
                  obtain ⟨c0, c1, c2, c3, c4⟩ := cells5' T4.out.b0
                  obtain ⟨p0, p1, p2, p3, p4, p5, p6⟩ := cells7g T4.out.b1
                  obtain ⟨s0, s1, s2, s3, s4, s5⟩ := cells6 S4.out
                  have l0 := T4.out.b0.lt
                  have l1 := T4.out.b1.lt
                  have l2 := S4.out.lt
                  go_wp2
                  go_roundw
                  case rel => exact ⟨k + 1, by go_num, by omega, HZ2, T4⟩
                  case measure => simp [intOf]; omega
              ·have z9 : (sk == 1) = false := by simpa using k2
               have z10 : (sk != 0) = true := by simpa using k0
               have z11 : (sk != 1) = true := by simpa using k2
               have HE := Lib.hid (HXB.out (by unfold symBad; rw [if_neg k0, if_neg k2]))
               clear HXB HXG HB HY2
               clear k0 k2
               have HBf := Lib.hid TA.out.bl
               go_wp2
               go_ret
               exact ⟨by rw [HE.out]; rfl, HBf.out⟩
            ·have HE := Lib.hid (HY2.out (fun i s hs => hS.out i s (by have := (List.getElem?_eq_some_iff.1 hs).1; have := HM.out; omega) hs))
             obtain rfl : k = m := by omega
             clear hS HB HY2
             go_wp2
             go_ret
             exact ⟨by rw [HE.out]; rfl, T.out.bl⟩
          | true =>
           have HE : Hid (q = false) := Lib.hid (HF.out (by rw [HU.out]; simp []))
           clear HF HB HY HU
           go_enter Tryz.func42, Tryz.ntmps42
           go_wp2_with fail
           with_reducible refine HS0.out.mono ?_
           rintro e w1 ⟨rfl, hB1⟩
           have T := Lib.hid (T0.out.below hB1)
           clear hB1 T0 HS0
           obtain ⟨c0, c1, c2, c3, c4⟩ := cells5' T.out.b0
           obtain ⟨p0, p1, p2, p3, p4, p5, p6⟩ := cells7g T.out.b1
           have l0 := T.out.b0.lt
           have l1 := T.out.b1.lt
           go_wp2
           go_ret
           exact ⟨by rw [HE.out]; rfl, T.out.bl⟩
        ·have hz2 : (role == 0) = false := by simpa using hz
         have hz3 : (role != 0) = true := by simpa using hz
         have HE : Hid (q = false) := Lib.hid (HF.out (by rw [HU.out]; simp [he, hz2]))
         clear HF HB HY HU
         clear hz
         go_enter Tryz.func42, Tryz.ntmps42
         go_wp2_with fail
         with_reducible refine HS0.out.mono ?_
         rintro e w1 ⟨rfl, hB1⟩
         have T := Lib.hid (T0.out.below hB1)
         clear hB1 T0 HS0
         obtain ⟨c0, c1, c2, c3, c4⟩ := cells5' T.out.b0
         obtain ⟨p0, p1, p2, p3, p4, p5, p6⟩ := cells7g T.out.b1
         have l0 := T.out.b0.lt
         have l1 := T.out.b1.lt
         go_wp2
         go_ret
         exact ⟨by rw [HE.out]; rfl, T.out.bl⟩
end Go.Proofs.YtodnlcbnbkkanaaGreatDoor
end
section
namespace Go.Proofs.YtodnlcbnbkkanaaGreatDoor
open Go Go.RowKit

theorem set_same {L : List Bool} {i : Nat} (h : L[i]? = some true) : L.set i true = L := by
 apply List.ext_getElem?
 intro k
 rw [List.getElem?_set]
 split
 ·next e => subst e; rw [h]; have := (List.getElem?_eq_some_iff.1 h).1; simp [this]
 ·rfl
def RoundP (g : GramM) (r : Nat) (L0 : List Bool) (j : Nat) (L : List Bool) : Prop :=
 (L = L0 ∧ (∀ (i : Nat) (x : ProdM), i < j → g.prods[i]? = some x → okP L0 x = true → lv L0 x.left = true) ∧ (Closed g L0 ∨ r + L0.count false ≤ g.sorts.length)) ∨ r + 1 + L.count false ≤ g.sorts.length
structure PJ (g : GramM) (w wr : World) (L : List Bool) : Prop where
 b0 : Blk wr w.heap.size 27 (gramC g)
 b1 : Blk wr (w.heap.size + 1) 4 (bools L)
 b : Below w.heap.size w wr
 len : L.length = g.sorts.length
 sound : Sound g L
end Go.Proofs.YtodnlcbnbkkanaaGreatDoor
end
section
namespace Go.Proofs.YtodnlcbnbkkanaaGreatDoor
open Go Go.RowKit

end Go.Proofs.YtodnlcbnbkkanaaGreatDoor
end
section
namespace Go.Proofs.YtodnlcbnbkkanaaGreatDoor
open Go Go.RowKit

def useB (u : Bool) (L : List Bool) (x : ProdM) : Bool := !(x.role == 11) && (!u || okP L x)
def EdgeU (g : GramM) (u : Bool) (L : List Bool) (k t : Nat) : Prop := ∃ x, x ∈ g.prods ∧ x.left = k ∧ useB u L x = true ∧ ∃ s, s ∈ x.right ∧ s.kind = 1 ∧ s.sort = t
inductive RU (g : GramM) (u : Bool) (L : List Bool) (j : Nat) : Nat → Prop
 | refl : RU g u L j j
 | step {k t : Nat} : RU g u L j k → EdgeU g u L k t → RU g u L j t
def SoundU (g : GramM) (u : Bool) (L M : List Bool) : Prop := ∀ k : Nat, M[k]? = some true → RU g u L g.start.toNat k
def ClosedU (g : GramM) (u : Bool) (L M : List Bool) : Prop := ∀ x, x ∈ g.prods → useB u L x = true → lv M x.left = true → ∀ s, s ∈ x.right → s.kind = 1 → lv M s.sort = true
def ReachU (g : GramM) (u : Bool) (L R : List Bool) : Prop := R.length = g.sorts.length ∧ ∀ k : Nat, R[k]? = some true ↔ RU g u L g.start.toNat k
def RS (n r : Nat) (C0 : Prop) (M0 : List Bool) (Q : Prop) (M : List Bool) : Prop := (M = M0 ∧ Q ∧ (C0 ∨ r + M0.count false ≤ n)) ∨ r + 1 + M.count false ≤ n
def PQ (g : GramM) (u : Bool) (L M0 : List Bool) (j : Nat) : Prop := ∀ (i : Nat) (x : ProdM), i < j → g.prods[i]? = some x → useB u L x = true → lv M0 x.left = true → ∀ s, s ∈ x.right → s.kind = 1 → lv M0 s.sort = true
def PX (g : GramM) (u : Bool) (L M0 : List Bool) (j : Nat) (x : ProdM) (m : Nat) : Prop := PQ g u L M0 j ∧ ∀ (i : Nat) (s : SymM), i < m → x.right[i]? = some s → s.kind = 1 → lv M0 s.sort = true
structure RJ (g : GramM) (u : Bool) (L : List Bool) (w wr : World) (M : List Bool) : Prop where
 b0 : Blk wr w.heap.size 27 (gramC g)
 b1 : Blk wr (w.heap.size + 1) 4 (bools M)
 b2 : Blk wr (w.heap.size + 1 + 1 + 1) 4 (bools L)
 b : Below w.heap.size w wr
 len : M.length = g.sorts.length
 st : M[g.start.toNat]? = some true
 sound : SoundU g u L M
end Go.Proofs.YtodnlcbnbkkanaaGreatDoor
end
section
namespace Go.Proofs.YtodnlcbnbkkanaaGreatDoor
open Go Go.RowKit

structure MarkAt (Bx Bm : Nat) (M : List Bool) (W : World) : Prop where
 bx : Blk W Bx 31 #[.slice (some ⟨Bm, 0, none⟩) M.length M.length]
 bm : Blk W Bm 4 (bools M)
theorem MarkAt.below {Bx Bm : Nat} {M : List Bool} {W V : World} {N : Nat} (h : MarkAt Bx Bm M W) (hB : Below N W V) (h1 : Bx < N) (h2 : Bm < N) : MarkAt Bx Bm M V := ⟨h.bx.below hB h1, h.bm.below hB h2⟩
theorem MarkAt.set {Bx Bm : Nat} {M : List Bool} {W : World} (h : MarkAt Bx Bm M W) (hne : Bx ≠ Bm) (k : Nat) : MarkAt Bx Bm (M.set k true) (W.setCell ⟨Bm, k, none⟩ (.bool true)) :=
 ⟨by rw [List.length_set]; exact h.bx.other hne _, by rw [← bools_set]; exact h.bm.set k _⟩
theorem MarkAt.lt {Bx Bm : Nat} {M : List Bool} {W : World} (h : MarkAt Bx Bm M W) : Bx < W.heap.size ∧ Bm < W.heap.size := ⟨h.bx.lt, h.bm.lt⟩

def MarkPost (w : World) (Bm k : Nat) (r v : Bool) (e : Ending) (w' : World) : Prop := ∃ w3, Below w.heap.size w w3 ∧ e = .returned (.bool (!r && !v)) ∧ w' = if r then w3 else w3.setCell ⟨Bm, k, none⟩ (.bool true)
def lacksQ (M : List Bool) (s : SymM) : Bool := s.kind == 1 && !lv M s.sort
def filledQ (M : List Bool) (s : SymM) : Bool := s.kind == 0 || !lv M s.sort

set_option maxRecDepth 100000 in
set_option maxHeartbeats 1000000 in
theorem f71_any (s : SymM) (Bx Bm : Nat) (M : List Bool) (w : World) (h : MarkAt Bx Bm M w) (hM : M.length ≤ 1000) (hs : s.kind = 1 → ∃ k : Nat, s.sort = k ∧ k < M.length) :
  Calls Tryz.prog 71 #[symV s, .pointer (some ⟨Bx, 0, none⟩)] w fun e w' => e = .returned (.bool (lacksQ M s)) ∧ Below w.heap.size w w' := by
 have hB : Hid (Below w.heap.size w (w.alloc (.cells (symC s) 60))) := (Below.refl _ _).alloc (Nat.le_refl _) _
 have cx := h.bx.cell 0
 have lx := h.bx.lt
 have lm := h.bm.lt
 have HS := Lib.hid hs
 have HC := Lib.hid h
 obtain ⟨sk, ss, so⟩ := s
 unfold symV symC lacksQ at *
 dsimp only at *
 clear h hs
 obtain ⟨n, hn⟩ : ∃ n, n = M.length := ⟨_, rfl⟩
 rw [← hn] at cx hM
 have HN := Lib.hid hn
 clear hn
 cases k1 : (sk == 1) with
 | false =>
  clear HS
  go_enter Tryz.func71, Tryz.ntmps71
  go_wp2
  go_ret
  exact ⟨rfl, hB.out⟩
 | true =>
  obtain ⟨j, rfl, hj⟩ := HS.out (by simpa using k1)
  have y0 := HC.out.bm.cell j
  rw [bools_at M j hj] at y0
  obtain ⟨v, hv⟩ : ∃ v, v = lv M (j : Int) := ⟨_, rfl⟩
  rw [← hv] at y0 ⊢
  have z3 : (j : Int) < (n : Int) := by have := HN.out; omega
  have z4 : (0 : Int) ≤ (j : Int) := by omega
  clear hv hj HS HC
  go_enter Tryz.func71, Tryz.ntmps71
  go_wp2
  go_ret
  exact ⟨by cases v <;> rfl, hB.out⟩

set_option maxRecDepth 100000 in
set_option maxHeartbeats 1000000 in
theorem f111_any (s : SymM) (Bx Bm : Nat) (M : List Bool) (w : World) (h : MarkAt Bx Bm M w) (hM : M.length ≤ 1000) (hs : s.kind = 1 → ∃ k : Nat, s.sort = k ∧ k < M.length) :
  Calls Tryz.prog 111 #[symV s, .pointer (some ⟨Bx, 0, none⟩)] w fun e w' => e = .returned (.bool (lacksQ M s)) ∧ Below w.heap.size w w' := by
 have hB : Hid (Below w.heap.size w (w.alloc (.cells (symC s) 60))) := (Below.refl _ _).alloc (Nat.le_refl _) _
 have cx := h.bx.cell 0
 have lx := h.bx.lt
 have lm := h.bm.lt
 have HS := Lib.hid hs
 have HC := Lib.hid h
 obtain ⟨sk, ss, so⟩ := s
 unfold symV symC lacksQ at *
 dsimp only at *
 clear h hs
 obtain ⟨n, hn⟩ : ∃ n, n = M.length := ⟨_, rfl⟩
 rw [← hn] at cx hM
 have HN := Lib.hid hn
 clear hn
 cases k1 : (sk == 1) with
 | false =>
  clear HS
  go_enter Tryz.func111, Tryz.ntmps111
  go_wp2
  go_ret
  exact ⟨rfl, hB.out⟩
 | true =>
  obtain ⟨j, rfl, hj⟩ := HS.out (by simpa using k1)
  have y0 := HC.out.bm.cell j
  rw [bools_at M j hj] at y0
  obtain ⟨v, hv⟩ : ∃ v, v = lv M (j : Int) := ⟨_, rfl⟩
  rw [← hv] at y0 ⊢
  have z3 : (j : Int) < (n : Int) := by have := HN.out; omega
  have z4 : (0 : Int) ≤ (j : Int) := by omega
  clear hv hj HS HC
  go_enter Tryz.func111, Tryz.ntmps111
  go_wp2
  go_ret
  exact ⟨by cases v <;> rfl, hB.out⟩

set_option maxRecDepth 100000 in
set_option maxHeartbeats 1000000 in
theorem f75n_any (s : SymM) (Bx Bm : Nat) (M : List Bool) (w : World) (h : MarkAt Bx Bm M w) (hM : M.length ≤ 1000) (hs : s.kind ≠ 0 → ∃ k : Nat, s.sort = k ∧ k < M.length) :
  Calls Tryz.prog 75 #[symV s, .pointer (some ⟨Bx, 0, none⟩)] w fun e w' => e = .returned (.bool (filledQ M s)) ∧ Below w.heap.size w w' := by
 have hB : Hid (Below w.heap.size w (w.alloc (.cells (symC s) 60))) := (Below.refl _ _).alloc (Nat.le_refl _) _
 have cx := h.bx.cell 0
 have lx := h.bx.lt
 have lm := h.bm.lt
 have HS := Lib.hid hs
 have HC := Lib.hid h
 obtain ⟨sk, ss, so⟩ := s
 unfold symV symC filledQ at *
 dsimp only at *
 clear h hs
 obtain ⟨n, hn⟩ : ∃ n, n = M.length := ⟨_, rfl⟩
 rw [← hn] at cx hM
 have HN := Lib.hid hn
 clear hn
 cases k1 : (sk == 0) with
 | true =>
  clear HS
  go_enter Tryz.func75, Tryz.ntmps75
  go_wp2
  go_ret
  exact ⟨rfl, hB.out⟩
 | false =>
  obtain ⟨j, rfl, hj⟩ := HS.out (by simpa using k1)
  have y0 := HC.out.bm.cell j
  rw [bools_at M j hj] at y0
  obtain ⟨v, hv⟩ : ∃ v, v = lv M (j : Int) := ⟨_, rfl⟩
  rw [← hv] at y0 ⊢
  have z3 : (j : Int) < (n : Int) := by have := HN.out; omega
  have z4 : (0 : Int) ≤ (j : Int) := by omega
  clear hv hj HS HC
  go_enter Tryz.func75, Tryz.ntmps75
  go_wp2
  go_ret
  exact ⟨by cases v <;> rfl, hB.out⟩

set_option maxRecDepth 100000 in
set_option maxHeartbeats 2000000 in
theorem f69_any (x : ProdM) (Bx Bm : Nat) (M : List Bool) (w : World) (h : MarkAt Bx Bm M w) (hM : M.length ≤ 1000) (hx : ProdIn w x) (hr : x.right.length ≤ 30) (hs : ∀ s, s ∈ x.right → s.kind = 1 → ∃ k : Nat, s.sort = k ∧ k < M.length) (k : Nat) (hk : x.left = k) (hkl : k < M.length) :
  Calls Tryz.prog 69 #[prodV x, .pointer (some ⟨Bx, 0, none⟩)] w (MarkPost w Bm k (x.right.any (lacksQ M)) (lv M k)) := by
 have hB1 : Below w.heap.size w (w.alloc (.cells (prodC x) 65)) := (Below.refl _ _).alloc (Nat.le_refl _) _
 obtain ⟨l1, l2⟩ := h.lt
 have HC := Lib.hid (containsSym_any x.ra x.rc x.right (lacksQ M) 71 #[.pointer (some ⟨Bx, 0, none⟩)] (fun _ _ => by kernel_rfl) _ (hx.below hB1) (Nat.le_trans hr (by omega)) (fun s hsx W hW =>
  f71_any s Bx Bm M W ((h.below hB1 l1 l2).below hW (Nat.lt_of_lt_of_le l1 hB1.size) (Nat.lt_of_lt_of_le l2 hB1.size)) hM (hs s hsx)))
 have HB := Lib.hid hB1
 have HM := Lib.hid h
 have HP := Lib.hid (Blk.new w 65 (prodC x))
 have HMk := fun w' (h : Blk w' Bm 4 (bools M)) => mark_any M Bm k M.length M.length w' h hkl (Nat.le_refl _) (Nat.le_trans hM (by omega))
 obtain ⟨n, hn⟩ : ∃ n, n = M.length := ⟨_, rfl⟩
 have HN := Lib.hid hn
 have cx := h.bx.cell 0
 rw [← hn] at cx HMk
 have HMk := Lib.hid HMk
 have HE : Hid (prodC x = #[.int .i64 (k : Int), .slice x.ra x.right.length x.rc, .string x.cons, .int .i64 x.role, .bool x.prefer, .bool x.avoid, .int .i64 x.frm]) := Lib.hid (by rw [← hk]; rfl)
 unfold prodV
 rw [HE.out] at HC HB HP ⊢
 clear hB1 h hx hs hk hn cx hkl hM
 generalize x.right.any (lacksQ M) = r at *
 generalize lv M k = v at *
 go_enter Tryz.func69, Tryz.ntmps69
 go_wp2_with fail
 refine HC.out.mono ?_
 rintro e w3 ⟨rfl, hB3⟩
 have HB3 := Lib.hid (HB.out.trans (hB3.mono HB.out.size))
 have HP3 := Lib.hid (HP.out.below hB3 HP.out.lt)
 have HM3 := Lib.hid (HM.out.below HB3.out l1 l2)
 have cx := HM3.out.bx.cell 0
 rw [← HN.out] at cx
 obtain ⟨c0, c1, c2, c3, c4, c5, c6⟩ := cells7 HP3.out
 have l3 := HP3.out.lt
 have lx := HM3.out.bx.lt
 clear HC hB3 HP
 cases r with
 | true =>
  go_wp2
  go_ret
  exact ⟨w3, HB3.out, by rfl, by rw [if_pos rfl]⟩
 | false =>
  go_wp2_with fail
  refine (HMk.out _ HM3.out.bm).mono ?_
  rintro e w4 ⟨rfl, rfl⟩
  go_wp2
  go_ret
  exact ⟨w3, HB3.out, by rfl, by rw [if_neg (by decide)]⟩

set_option maxRecDepth 100000 in
set_option maxHeartbeats 2000000 in
theorem f74_any (x : ProdM) (Bx Bm : Nat) (M : List Bool) (w : World) (h : MarkAt Bx Bm M w) (hM : M.length ≤ 1000) (hx : ProdIn w x) (hr : x.right.length ≤ 30) (hs : ∀ s, s ∈ x.right → s.kind ≠ 0 → ∃ k : Nat, s.sort = k ∧ k < M.length) (k : Nat) (hk : x.left = k) (hkl : k < M.length) :
  Calls Tryz.prog 74 #[prodV x, .pointer (some ⟨Bx, 0, none⟩)] w (MarkPost w Bm k (x.right.any (filledQ M)) (lv M k)) := by
 have hB1 : Below w.heap.size w (w.alloc (.cells (prodC x) 65)) := (Below.refl _ _).alloc (Nat.le_refl _) _
 obtain ⟨l1, l2⟩ := h.lt
 have HC := Lib.hid (containsSym_any x.ra x.rc x.right (filledQ M) 75 #[.pointer (some ⟨Bx, 0, none⟩)] (fun _ _ => by kernel_rfl) _ (hx.below hB1) (Nat.le_trans hr (by omega)) (fun s hsx W hW =>
  f75n_any s Bx Bm M W ((h.below hB1 l1 l2).below hW (Nat.lt_of_lt_of_le l1 hB1.size) (Nat.lt_of_lt_of_le l2 hB1.size)) hM (hs s hsx)))
 have HB := Lib.hid hB1
 have HM := Lib.hid h
 have HP := Lib.hid (Blk.new w 65 (prodC x))
 have HMk := fun w' (h : Blk w' Bm 4 (bools M)) => mark_any M Bm k M.length M.length w' h hkl (Nat.le_refl _) (Nat.le_trans hM (by omega))
 obtain ⟨n, hn⟩ : ∃ n, n = M.length := ⟨_, rfl⟩
 have HN := Lib.hid hn
 have cx := h.bx.cell 0
 rw [← hn] at cx HMk
 have HMk := Lib.hid HMk
 have HE : Hid (prodC x = #[.int .i64 (k : Int), .slice x.ra x.right.length x.rc, .string x.cons, .int .i64 x.role, .bool x.prefer, .bool x.avoid, .int .i64 x.frm]) := Lib.hid (by rw [← hk]; rfl)
 unfold prodV
 rw [HE.out] at HC HB HP ⊢
 clear hB1 h hx hs hk hn cx hkl hM
 generalize x.right.any (filledQ M) = r at *
 generalize lv M k = v at *
 go_enter Tryz.func74, Tryz.ntmps74
 go_wp2_with fail
 refine HC.out.mono ?_
 rintro e w3 ⟨rfl, hB3⟩
 have HB3 := Lib.hid (HB.out.trans (hB3.mono HB.out.size))
 have HP3 := Lib.hid (HP.out.below hB3 HP.out.lt)
 have HM3 := Lib.hid (HM.out.below HB3.out l1 l2)
 have cx := HM3.out.bx.cell 0
 rw [← HN.out] at cx
 obtain ⟨c0, c1, c2, c3, c4, c5, c6⟩ := cells7 HP3.out
 have l3 := HP3.out.lt
 have lx := HM3.out.bx.lt
 clear HC hB3 HP
 cases r with
 | true =>
  go_wp2
  go_ret
  exact ⟨w3, HB3.out, by rfl, by rw [if_pos rfl]⟩
 | false =>
  go_wp2_with fail
  refine (HMk.out _ HM3.out.bm).mono ?_
  rintro e w4 ⟨rfl, rfl⟩
  go_wp2
  go_ret
  exact ⟨w3, HB3.out, by rfl, by rw [if_neg (by decide)]⟩
end Go.Proofs.YtodnlcbnbkkanaaGreatDoor
end
