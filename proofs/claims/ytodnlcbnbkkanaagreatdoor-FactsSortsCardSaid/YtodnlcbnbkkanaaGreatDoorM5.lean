import Derived.Test.YtodnlcbnbkkanaaGreatDoorM3
import Derived.Test.YtodnlcbnbkkanaaGreatDoorM4
section
namespace Go.Proofs.YtodnlcbnbkkanaaGreatDoor
open Go Go.RowKit

/-- What makes a symbol one that may not be. -/
def symBad (n : Int) (role : Int) (s : SymM) : Bool := if s.kind = 0 then s.set == 0#256 || !(s.sort == 0) else if s.kind = 1 then !(s.set == 0#256) || (!(numB s.sort n) || role == 11) else true
def rfirstB (n : Int) (x : ProdM) : Bool := !(numB x.left n) || (decide (30 < x.right.length) || (decide (x.role < 0) || (decide (11 < x.role) || (decide (x.frm < -1) || (decide (64 < x.cons.size) || ((!x.cons.toList.isEmpty && !(x.role == 0)) || (x.prefer && x.avoid)))))))
def rprodB (n : Int) (x : ProdM) : Bool := !(rfirstB n x) && x.right.all fun s => !(symBad n x.role s)

theorem all_congr' {α : Type} {p q : α → Bool} {l : List α} (h : ∀ x, x ∈ l → p x = q x) : l.all p = l.all q := by
  induction l with
  | nil => rfl
  | cons x r ih => rw [List.all_cons, List.all_cons, h x (by simp), ih (fun y hy => h y (by simp [hy]))]
theorem sym_bad (n role : Int) (s : SymM) (h : role ≠ 11) : (!(symBad n role s)) = symB n s := by
  have hr : (role == 11) = false := by simpa using h
  unfold symBad symB
  by_cases h0 : s.kind = 0
  · rw [if_pos h0, if_pos h0]; cases s.set == 0#256 <;> cases s.sort == 0 <;> rfl
  · rw [if_neg h0, if_neg h0]
    by_cases h1 : s.kind = 1
    · rw [if_pos h1, if_pos h1, hr]; cases s.set == 0#256 <;> cases numB s.sort n <;> rfl
    · rw [if_neg h1, if_neg h1]; rfl
theorem sym_bad11 (n : Int) (s : SymM) : (!(symBad n 11 s)) = (symB n s && sortB (fun _ => false) s) := by
  obtain ⟨k, st, so⟩ := s
  unfold symBad symB sortB
  dsimp only
  by_cases h0 : k = 0
  · subst h0
    rw [if_pos rfl, if_pos rfl]
    cases st == 0#256 <;> cases so == 0 <;> rfl
  · rw [if_neg h0, if_neg h0]
    by_cases h1 : k = 1
    · subst h1
      rw [if_pos rfl, if_pos rfl]
      cases st == 0#256 <;> cases numB so n <;> rfl
    · rw [if_neg h1, if_neg h1]; rfl
theorem all_and {α : Type} (p q : α → Bool) (l : List α) : (l.all fun x => p x && q x) = (l.all p && l.all q) := by
  induction l with
  | nil => rfl
  | cons x r ih => simp only [List.all_cons, ih]; cases p x <;> cases q x <;> simp
theorem empty_size (s : ByteArray) : s.toList.isEmpty = decide (s.size = 0) := by
  rw [toList_data]
  have h : s.size = s.data.toList.length := by rw [Array.length_toList]; rfl
  rw [h]
  cases s.data.toList <;> simp
theorem rprod_eq (n : Int) (x : ProdM) : rprodB n x = prodB n x := by
  have hE : x.cons.toList.isEmpty = true → decide (64 < x.cons.size) = false := fun h => by
    rw [empty_size] at h
    have := of_decide_eq_true h
    exact decide_eq_false (by omega)
  have h64 : decide (x.cons.size ≤ 64) = !decide (64 < x.cons.size) := by rw [Bool.eq_iff_iff]; simp
  have h30 : decide (x.right.length ≤ 30) = !decide (30 < x.right.length) := by rw [Bool.eq_iff_iff]; simp
  have hf : decide (-1 ≤ x.frm) = !decide (x.frm < -1) := by rw [Bool.eq_iff_iff]; simp
  unfold rprodB prodB rfirstB roleB
  rw [h64, h30, hf]
  generalize numB x.left n = b0
  generalize decide (64 < x.cons.size) = b1 at *
  generalize decide (30 < x.right.length) = b2
  generalize decide (x.frm < -1) = b3
  generalize x.cons.toList.isEmpty = b4 at *
  generalize x.prefer = b5
  generalize x.avoid = b6
  clear h64 h30 hf
  by_cases r0 : x.role < 0
  · rw [if_pos r0, decide_eq_true r0]; simp
  · rw [if_neg r0, decide_eq_false r0]
    by_cases r1 : 11 < x.role
    · rw [if_pos r1, decide_eq_true r1]; simp
    · rw [if_neg r1, decide_eq_false r1]
      by_cases r2 : x.role = 0
      · have e0 : (x.role == 0) = true := by simpa using r2
        rw [if_pos r2, e0, show (x.right.all fun s => !symBad n x.role s) = x.right.all (symB n) from all_congr' fun s _ => sym_bad n x.role s (by omega)]
        generalize x.right.all (symB n) = b7
        clear r0 r1 r2 e0
        revert hE
        cases b0 <;> cases b1 <;> cases b2 <;> cases b3 <;> cases b4 <;> cases b5 <;> cases b6 <;> cases b7 <;> decide
      · have e0 : (x.role == 0) = false := by simpa using r2
        rw [if_neg r2, e0]
        by_cases r3 : x.role = 11
        · rw [r3, show (x.right.all fun s => !symBad n 11 s) = (x.right.all fun s => symB n s && sortB (fun _ => false) s) from all_congr' fun s _ => sym_bad11 n s, all_and]
          rw [show sortsB (fun _ => false) x = x.right.all (sortB fun _ => false) from rfl]
          generalize x.right.all (symB n) = b7
          generalize x.right.all (sortB fun _ => false) = b8
          clear r0 r1 r2 r3 e0
          revert hE
          cases b0 <;> cases b1 <;> cases b2 <;> cases b3 <;> cases b4 <;> cases b5 <;> cases b6 <;> cases b7 <;> cases b8 <;> decide
        · rw [if_neg (fun h => r3 h.1), show (x.right.all fun s => !symBad n x.role s) = x.right.all (symB n) from all_congr' fun s _ => sym_bad n x.role s r3]
          generalize x.right.all (symB n) = b7
          clear r0 r1 r2 r3 e0
          revert hE
          cases b0 <;> cases b1 <;> cases b2 <;> cases b3 <;> cases b4 <;> cases b5 <;> cases b6 <;> cases b7 <;> decide

/-- The boxes of a call with a grammar and something else. -/
structure TwoG (w wr : World) (x : Array Value) (t : Nat) (y : Array Value) : Prop where
  b0 : Blk wr w.heap.size 27 x
  b1 : Blk wr (w.heap.size + 1) t y
  bl : Below w.heap.size w wr
theorem TwoG.start (w : World) (x : Array Value) (t : Nat) (y : Array Value) : TwoG w ((w.alloc (.cells x 27)).alloc (.cells y t)) x t y := by
  refine ⟨(Blk.new w 27 x).alloc _, ?_, ((Below.refl _ w).alloc (Nat.le_refl _) _).alloc (by simp) _⟩
  have h := Blk.new (w.alloc (.cells x 27)) t y
  rw [World.size_alloc] at h
  exact h
theorem TwoG.below {w wr W : World} {x : Array Value} {t : Nat} {y : Array Value} (h : TwoG w wr x t y) (hB : Below wr.heap.size wr W) : TwoG w W x t y := ⟨h.b0.below hB h.b0.lt, h.b1.below hB h.b1.lt, h.bl.trans (hB.mono h.bl.size)⟩
theorem cells6 {W : World} {B t : Nat} {a b c d e f : Value} (h : Blk W B t #[a, b, c, d, e, f]) : W.cell? ⟨B, 0, none⟩ = some a ∧ W.cell? ⟨B, 1, none⟩ = some b ∧ W.cell? ⟨B, 2, none⟩ = some c ∧ W.cell? ⟨B, 3, none⟩ = some d ∧ W.cell? ⟨B, 4, none⟩ = some e ∧ W.cell? ⟨B, 5, none⟩ = some f :=
  ⟨h.cell 0, h.cell 1, h.cell 2, h.cell 3, h.cell 4, h.cell 5⟩

set_option maxRecDepth 100000 in
set_option maxHeartbeats 4000000 in
theorem rprod_any (g : GramM) (x : ProdM) (w : World) (hx : ProdIn w x) (hn : x.right.length ≤ maxLen) : Calls Tryz.prog 42 #[gramV g, prodV x] w fun e w' => e = .returned (.bool (prodB g.sorts.length x)) ∧ Below w.heap.size w w' := by
  have T0 := Lib.hid (TwoG.start w (gramC g) 65 (prodC x))
  have hB0 := T0.out.bl
  have HX := Lib.hid hx
  have HS0 := Lib.hid (rsort_any g x.left ((w.alloc (.cells (gramC g) 27)).alloc (.cells (prodC x) 65)))
  have HSo := fun n W => Lib.hid (rsort_any g n W)
  rw [← rprod_eq]
  obtain ⟨q, hq⟩ : ∃ q, q = rprodB g.sorts.length x := ⟨_, rfl⟩
  rw [← hq]
  obtain ⟨r0, hr0⟩ : ∃ r, r = numB x.left g.sorts.length := ⟨_, rfl⟩
  have HF : Hid (rfirstB g.sorts.length x = true → q = false) := Lib.hid fun h => by rw [hq, rprodB, h]; rfl
  have HB : Hid (∀ (i : Nat) (s : SymM), x.right[i]? = some s → symBad g.sorts.length x.role s = true → q = false) := Lib.hid fun i s hi hs => by
    rw [hq, rprodB, List.all_eq_false.2 ⟨s, List.mem_of_getElem? hi, by rw [hs]; simp⟩, Bool.and_false]
  have HY : Hid (rfirstB g.sorts.length x = false → (∀ (i : Nat) (s : SymM), x.right[i]? = some s → symBad g.sorts.length x.role s = false) → q = true) := Lib.hid fun h hs => by
    rw [hq, rprodB, h, List.all_eq_true.2 (fun s hm => by obtain ⟨i, hi⟩ := List.mem_iff_getElem?.1 hm; rw [hs i s hi]; rfl)]; rfl
  have HU : Hid (rfirstB g.sorts.length x = (!r0 || (decide (30 < x.right.length) || (decide (x.role < 0) || (decide (11 < x.role) || (decide (x.frm < -1) || (decide (64 < x.cons.size) || ((!x.cons.toList.isEmpty && !(x.role == 0)) || (x.prefer && x.avoid))))))))) := Lib.hid (by rw [hr0]; rfl)
  rw [← hr0] at HS0
  unfold maxLen at hn
  obtain ⟨ns, hns⟩ : ∃ n : Nat, n = g.sorts.length := ⟨_, rfl⟩
  rw [← hns] at HF HB HY HU HSo
  clear hq hr0 hx hB0
  obtain ⟨left, ra, rc, right, cons, role, prefer, avoid, frm⟩ := x
  unfold ProdIn at HX
  dsimp only at *
  obtain ⟨m, hm⟩ : ∃ m, m = right.length := ⟨_, rfl⟩
  have HM := Lib.hid hm
  unfold gramV gramC prodV prodC at *
  dsimp only at *
  rw [← hns] at T0 HS0 ⊢
  rw [← hm] at hn T0 HS0 HU ⊢
  simp only [← hns] at HSo
  clear hns hm
  cases r0 with
  | false =>
    have HE : Hid (q = false) := Lib.hid (HF.out (by rw [HU.out]; simp []))
    clear HF HB HY HU
    go_enter Tryz.func42, Tryz.ntmps42
    go_wp2_with fail
    with_reducible refine HS0.out.mono ?_
    rintro e w1 ⟨rfl, hB1⟩
    have T := Lib.hid (T0.out.below hB1)
    clear hB1 T0 HS0
    obtain ⟨c0, c1, c2, c3, c4⟩ := cells5' T.out.b0
    obtain ⟨p0, p1, p2, p3, p4, p5, p6⟩ := cells7g T.out.b1
    have l0 := T.out.b0.lt
    have l1 := T.out.b1.lt
    go_wp2
    go_ret
    exact ⟨by rw [HE.out]; rfl, T.out.bl⟩
  | true =>
    by_cases h1 : 30 < m
    · have d1 : decide ((30 : Int) < (m : Int)) = true := by simp; omega
      have HE : Hid (q = false) := Lib.hid (HF.out (by rw [HU.out]; simp [h1]))
      clear HF HB HY HU
      clear h1
      go_enter Tryz.func42, Tryz.ntmps42
      go_wp2_with fail
      with_reducible refine HS0.out.mono ?_
      rintro e w1 ⟨rfl, hB1⟩
      have T := Lib.hid (T0.out.below hB1)
      clear hB1 T0 HS0
      obtain ⟨c0, c1, c2, c3, c4⟩ := cells5' T.out.b0
      obtain ⟨p0, p1, p2, p3, p4, p5, p6⟩ := cells7g T.out.b1
      have l0 := T.out.b0.lt
      have l1 := T.out.b1.lt
      go_wp2
      go_ret
      exact ⟨by rw [HE.out]; rfl, T.out.bl⟩
    · have d1 : decide ((30 : Int) < (m : Int)) = false := by simp; omega
      by_cases h2 : role < 0
      · have d2 : decide (role < 0) = true := by simp; omega
        have HE : Hid (q = false) := Lib.hid (HF.out (by rw [HU.out]; simp [h2]))
        clear HF HB HY HU
        clear h2
        go_enter Tryz.func42, Tryz.ntmps42
        go_wp2_with fail
        with_reducible refine HS0.out.mono ?_
        rintro e w1 ⟨rfl, hB1⟩
        have T := Lib.hid (T0.out.below hB1)
        clear hB1 T0 HS0
        obtain ⟨c0, c1, c2, c3, c4⟩ := cells5' T.out.b0
        obtain ⟨p0, p1, p2, p3, p4, p5, p6⟩ := cells7g T.out.b1
        have l0 := T.out.b0.lt
        have l1 := T.out.b1.lt
        go_wp2
        go_ret
        exact ⟨by rw [HE.out]; rfl, T.out.bl⟩
      · have d2 : decide (role < 0) = false := by simp; omega
        by_cases h3 : 11 < role
        · have d3 : decide ((11 : Int) < role) = true := by simp; omega
          have HE : Hid (q = false) := Lib.hid (HF.out (by rw [HU.out]; simp [h3]))
          clear HF HB HY HU
          clear h3
          go_enter Tryz.func42, Tryz.ntmps42
          go_wp2_with fail
          with_reducible refine HS0.out.mono ?_
          rintro e w1 ⟨rfl, hB1⟩
          have T := Lib.hid (T0.out.below hB1)
          clear hB1 T0 HS0
          obtain ⟨c0, c1, c2, c3, c4⟩ := cells5' T.out.b0
          obtain ⟨p0, p1, p2, p3, p4, p5, p6⟩ := cells7g T.out.b1
          have l0 := T.out.b0.lt
          have l1 := T.out.b1.lt
          go_wp2
          go_ret
          exact ⟨by rw [HE.out]; rfl, T.out.bl⟩
        · have d3 : decide ((11 : Int) < role) = false := by simp; omega
          by_cases h4 : frm < -1
          · have d4 : decide (frm < (-1 : Int)) = true := by simp; omega
            have HE : Hid (q = false) := Lib.hid (HF.out (by rw [HU.out]; simp [h4]))
            clear HF HB HY HU
            clear h4
            go_enter Tryz.func42, Tryz.ntmps42
            go_wp2_with fail
            with_reducible refine HS0.out.mono ?_
            rintro e w1 ⟨rfl, hB1⟩
            have T := Lib.hid (T0.out.below hB1)
            clear hB1 T0 HS0
            obtain ⟨c0, c1, c2, c3, c4⟩ := cells5' T.out.b0
            obtain ⟨p0, p1, p2, p3, p4, p5, p6⟩ := cells7g T.out.b1
            have l0 := T.out.b0.lt
            have l1 := T.out.b1.lt
            go_wp2
            go_ret
            exact ⟨by rw [HE.out]; rfl, T.out.bl⟩
          · have d4 : decide (frm < (-1 : Int)) = false := by simp; omega
            by_cases h5 : 64 < cons.size
            · have d5 : decide ((64 : Int) < (cons.size : Int)) = true := by simp; omega
              have HE : Hid (q = false) := Lib.hid (HF.out (by rw [HU.out]; simp [h5]))
              clear HF HB HY HU
              clear h5
              go_enter Tryz.func42, Tryz.ntmps42
              go_wp2_with fail
              with_reducible refine HS0.out.mono ?_
              rintro e w1 ⟨rfl, hB1⟩
              have T := Lib.hid (T0.out.below hB1)
              clear hB1 T0 HS0
              obtain ⟨c0, c1, c2, c3, c4⟩ := cells5' T.out.b0
              obtain ⟨p0, p1, p2, p3, p4, p5, p6⟩ := cells7g T.out.b1
              have l0 := T.out.b0.lt
              have l1 := T.out.b1.lt
              go_wp2
              go_ret
              exact ⟨by rw [HE.out]; rfl, T.out.bl⟩
            · have d5 : decide ((64 : Int) < (cons.size : Int)) = false := by simp; omega
              cases he : cons.toList.isEmpty with
              | true =>
                have z0 : cons.toList = [] := by simpa using he
                have k6 : (!cons.toList.isEmpty && !(role == 0)) = false := by rw [he]; rfl
                cases prefer with
                | false =>
                  have HE0 : Hid (rfirstB _ _ = false) := Lib.hid (by rw [HU.out]; simp [h1, h2, h3, h4, h5, he])
                  have HY2 := Lib.hid (HY.out HE0.out)
                  clear HF HY HU HE0
                  go_enter Tryz.func42, Tryz.ntmps42
                  go_wp2_with fail
                  with_reducible refine HS0.out.mono ?_
                  rintro e w1 ⟨rfl, hB1⟩
                  have T := Lib.hid (T0.out.below hB1)
                  clear hB1 T0 HS0
                  obtain ⟨c0, c1, c2, c3, c4⟩ := cells5' T.out.b0
                  obtain ⟨p0, p1, p2, p3, p4, p5, p6⟩ := cells7g T.out.b1
                  have l0 := T.out.b0.lt
                  have l1 := T.out.b1.lt
                  go_wp2
                  go_loopw [5] (fun i wr => ∃ k : Nat, i = .int .i64 k ∧ k ≤ m ∧ Hid (∀ (i : Nat) (s : SymM), i < k → right[i]? = some s → symBad ns role s = false) ∧ Hid (TwoG w wr #[.slice g.sa ns g.sc, .slice g.pa g.prods.length g.pc, .int .i64 g.start, .slice g.fa g.forbid.length g.fc, .slice g.wa g.follow.length g.wc] 65 #[.int .i64 left, .slice ra m rc, .string cons, .int .i64 role, .bool false, .bool avoid, .int .i64 frm])) (fun i _ => m - (intOf i).toNat)
                  case atStart => exact ⟨0, rfl, Nat.zero_le _, Lib.hid (fun j s hj => by omega), T⟩
                  case round =>
                    clear T c0 c1 c2 c3 c4 p0 p1 p2 p3 p4 p5 p6 l0 l1
                    obtain ⟨k, rfl, hk, hS, T⟩ := hrel
                    obtain ⟨c0, c1, c2, c3, c4⟩ := cells5' T.out.b0
                    obtain ⟨p0, p1, p2, p3, p4, p5, p6⟩ := cells7g T.out.b1
                    have l0 := T.out.b0.lt
                    have l1 := T.out.b1.lt
                    by_cases hlt : k < m
                    · obtain ⟨s, hs⟩ : ∃ s, right[k]? = some s := ⟨_, List.getElem?_eq_getElem (by rw [← HM.out]; exact hlt)⟩
                      obtain ⟨b1, o1, e1, hb1, hc1, _⟩ := HX.out k s hs
                      obtain ⟨x0, x1, x2, x3, x4, x5⟩ := Sym_at (hc1.below T.out.bl hb1)
                      have hb1' := Nat.lt_of_lt_of_le hb1 T.out.bl.size
                      have HXB : Hid (symBad ns role s = true → q = false) := Lib.hid (HB.out k s hs)
                      have HXG : Hid (symBad ns role s = false → ∀ (i : Nat) (s : SymM), i < k + 1 → right[i]? = some s → symBad ns role s = false) := Lib.hid (fun h i y hi hy => by
                        by_cases e : i = k
                        · subst e; rw [hs] at hy; cases hy; exact h
                        · exact hS.out i y (by omega) hy)
                      have z1 : (k : Int) < (m : Int) := by omega
                      have z0 : (0 : Int) ≤ (k : Int) := by omega
                      rw [e1] at p1
                      clear hs hc1 hS e1
                      obtain ⟨sk, ss, so⟩ := s
                      dsimp only at *
                      obtain ⟨z, hz⟩ : ∃ z, z = (ss == 0#256) := ⟨_, rfl⟩
                      have HZE : Hid ((ss == 0#256) = z) := Lib.hid hz.symm
                      have HEm : ∀ W, Hid (Calls Tryz.prog 44 #[.agg #[.int .u64 (wdI ss 0), .int .u64 (wdI ss 1), .int .u64 (wdI ss 2), .int .u64 (wdI ss 3)]] W fun e w' => e = .returned (.bool z) ∧ Below W.heap.size W w') := fun W => Lib.hid (by rw [hz]; exact empty_any ss W)
                      have hA : Below wr.heap.size wr (wr.alloc (.cells #[.int .i64 sk, .int .u64 (wdI ss 0), .int .u64 (wdI ss 1), .int .u64 (wdI ss 2), .int .u64 (wdI ss 3), .int .i64 so] 60)) := (Below.refl _ wr).alloc (Nat.le_refl _) _
                      have TA := Lib.hid (T.out.below hA)
                      have SA := Lib.hid (Blk.new wr 60 #[.int .i64 sk, .int .u64 (wdI ss 0), .int .u64 (wdI ss 1), .int .u64 (wdI ss 2), .int .u64 (wdI ss 3), .int .i64 so])
                      clear hz hA T
                      by_cases k0 : sk = 0
                      · subst k0
                        cases z with
                        | true =>
                          have HE := Lib.hid (HXB.out (by unfold symBad; rw [if_pos rfl, HZE.out]; rfl))
                          clear HXB HXG HB HY2
                          go_wp2_with fail
                          with_reducible refine (HEm _).out.mono ?_
                          rintro e w3 ⟨rfl, hB3⟩
                          have T3 := Lib.hid (TA.out.below hB3)
                          have S3 := Lib.hid (SA.out.below hB3 SA.out.lt)
                          have HBf := Lib.hid T3.out.bl
                          clear hB3
                          obtain ⟨c0, c1, c2, c3, c4⟩ := cells5' T3.out.b0
                          obtain ⟨p0, p1, p2, p3, p4, p5, p6⟩ := cells7g T3.out.b1
                          obtain ⟨s0, s1, s2, s3, s4, s5⟩ := cells6 S3.out
                          have l0 := T3.out.b0.lt
                          have l1 := T3.out.b1.lt
                          have l2 := S3.out.lt
                          go_wp2
                          go_ret
                          exact ⟨by rw [HE.out]; rfl, HBf.out⟩
                        | false =>
                          by_cases k1 : so = 0
                          · subst k1
                            have HZ2 := Lib.hid (HXG.out (by unfold symBad; rw [if_pos rfl, HZE.out]; rfl))
                            clear HXB HXG
                            go_wp2_with fail
                            with_reducible refine (HEm _).out.mono ?_
                            rintro e w3 ⟨rfl, hB3⟩
                            have T3 := Lib.hid (TA.out.below hB3)
                            have S3 := Lib.hid (SA.out.below hB3 SA.out.lt)
                            have HBf := Lib.hid T3.out.bl
                            clear hB3
                            obtain ⟨c0, c1, c2, c3, c4⟩ := cells5' T3.out.b0
                            obtain ⟨p0, p1, p2, p3, p4, p5, p6⟩ := cells7g T3.out.b1
                            obtain ⟨s0, s1, s2, s3, s4, s5⟩ := cells6 S3.out
                            have l0 := T3.out.b0.lt
                            have l1 := T3.out.b1.lt
                            have l2 := S3.out.lt
                            go_wp2
                            go_roundw
                            case rel => exact ⟨k + 1, by go_num, by omega, HZ2, T3⟩
                            case measure => simp [intOf]; omega
                          · have z5 : (so != 0) = true := by simpa using k1
                            have z6 : (so == 0) = false := by simpa using k1
                            have HE := Lib.hid (HXB.out (by unfold symBad; rw [if_pos rfl, HZE.out, z6]; rfl))
                            clear HXB HXG HB HY2
                            clear k1
                            go_wp2_with fail
                            with_reducible refine (HEm _).out.mono ?_
                            rintro e w3 ⟨rfl, hB3⟩
                            have T3 := Lib.hid (TA.out.below hB3)
                            have S3 := Lib.hid (SA.out.below hB3 SA.out.lt)
                            have HBf := Lib.hid T3.out.bl
                            clear hB3
                            obtain ⟨c0, c1, c2, c3, c4⟩ := cells5' T3.out.b0
                            obtain ⟨p0, p1, p2, p3, p4, p5, p6⟩ := cells7g T3.out.b1
                            obtain ⟨s0, s1, s2, s3, s4, s5⟩ := cells6 S3.out
                            have l0 := T3.out.b0.lt
                            have l1 := T3.out.b1.lt
                            have l2 := S3.out.lt
                            go_wp2
                            go_ret
                            exact ⟨by rw [HE.out]; rfl, HBf.out⟩
                      · have z7 : (sk == 0) = false := by simpa using k0
                        by_cases k2 : sk = 1
                        · subst k2
                          cases z with
                          | false =>
                            have HE := Lib.hid (HXB.out (by unfold symBad; rw [if_neg k0, if_pos rfl, HZE.out]; rfl))
                            clear HXB HXG HB HY2
                            clear k0
                            go_wp2_with fail
                            with_reducible refine (HEm _).out.mono ?_
                            rintro e w3 ⟨rfl, hB3⟩
                            have T3 := Lib.hid (TA.out.below hB3)
                            have S3 := Lib.hid (SA.out.below hB3 SA.out.lt)
                            have HBf := Lib.hid T3.out.bl
                            clear hB3
                            obtain ⟨c0, c1, c2, c3, c4⟩ := cells5' T3.out.b0
                            obtain ⟨p0, p1, p2, p3, p4, p5, p6⟩ := cells7g T3.out.b1
                            obtain ⟨s0, s1, s2, s3, s4, s5⟩ := cells6 S3.out
                            have l0 := T3.out.b0.lt
                            have l1 := T3.out.b1.lt
                            have l2 := S3.out.lt
                            go_wp2
                            go_ret
                            exact ⟨by rw [HE.out]; rfl, HBf.out⟩
                          | true =>
                            obtain ⟨y, hy⟩ : ∃ y, y = numB so ns := ⟨_, rfl⟩
                            have HYN := Lib.hid hy
                            have HS1 : ∀ W, Hid (Calls Tryz.prog 41 #[.agg #[.slice g.sa ns g.sc, .slice g.pa g.prods.length g.pc, .int .i64 g.start, .slice g.fa g.forbid.length g.fc, .slice g.wa g.follow.length g.wc], .int .i64 so] W fun e w' => e = .returned (.bool y) ∧ Below W.heap.size W w') := fun W => Lib.hid (by rw [hy]; exact (HSo so W).out)
                            clear hy HSo
                            cases y with
                            | false =>
                              have HE := Lib.hid (HXB.out (by unfold symBad; rw [if_neg k0, if_pos rfl, HZE.out, ← HYN.out]; rfl))
                              clear HXB HXG HB HY2
                              clear k0
                              go_wp2_with fail
                              with_reducible refine (HEm _).out.mono ?_
                              rintro e w3 ⟨rfl, hB3⟩
                              have T3 := Lib.hid (TA.out.below hB3)
                              have S3 := Lib.hid (SA.out.below hB3 SA.out.lt)
                              have HBf := Lib.hid T3.out.bl
                              clear hB3
                              obtain ⟨c0, c1, c2, c3, c4⟩ := cells5' T3.out.b0
                              obtain ⟨p0, p1, p2, p3, p4, p5, p6⟩ := cells7g T3.out.b1
                              obtain ⟨s0, s1, s2, s3, s4, s5⟩ := cells6 S3.out
                              have l0 := T3.out.b0.lt
                              have l1 := T3.out.b1.lt
                              have l2 := S3.out.lt
                              go_wp2_with fail
                              with_reducible refine (HS1 _).out.mono ?_
                              rintro e w4 ⟨rfl, hB4⟩
                              have T4 := Lib.hid (T3.out.below hB4)
                              have S4 := Lib.hid (S3.out.below hB4 S3.out.lt)
                              have HBf := Lib.hid T4.out.bl
                              clear hB4 c0 c1 c2 c3 c4 p0 p1 p2 p3 p4 p5 p6 s0 s1 s2 s3 s4 s5 l0 l1 l2
                              obtain ⟨c0, c1, c2, c3, c4⟩ := cells5' T4.out.b0
                              obtain ⟨p0, p1, p2, p3, p4, p5, p6⟩ := cells7g T4.out.b1
                              obtain ⟨s0, s1, s2, s3, s4, s5⟩ := cells6 S4.out
                              have l0 := T4.out.b0.lt
                              have l1 := T4.out.b1.lt
                              have l2 := S4.out.lt
                              go_wp2
                              go_ret
                              exact ⟨by rw [HE.out]; rfl, HBf.out⟩
                            | true =>
                              by_cases k3 : role = 11
                              · have z8 : (role == 11) = true := by simpa using k3
                                have HE := Lib.hid (HXB.out (by unfold symBad; rw [if_neg k0, if_pos rfl, HZE.out, ← HYN.out, z8]; rfl))
                                clear HXB HXG HB HY2
                                clear k0 k3
                                go_wp2_with fail
                                with_reducible refine (HEm _).out.mono ?_
                                rintro e w3 ⟨rfl, hB3⟩
                                have T3 := Lib.hid (TA.out.below hB3)
                                have S3 := Lib.hid (SA.out.below hB3 SA.out.lt)
                                have HBf := Lib.hid T3.out.bl
                                clear hB3
                                obtain ⟨c0, c1, c2, c3, c4⟩ := cells5' T3.out.b0
                                obtain ⟨p0, p1, p2, p3, p4, p5, p6⟩ := cells7g T3.out.b1
                                obtain ⟨s0, s1, s2, s3, s4, s5⟩ := cells6 S3.out
                                have l0 := T3.out.b0.lt
                                have l1 := T3.out.b1.lt
                                have l2 := S3.out.lt
                                go_wp2_with fail
                                with_reducible refine (HS1 _).out.mono ?_
                                rintro e w4 ⟨rfl, hB4⟩
                                have T4 := Lib.hid (T3.out.below hB4)
                                have S4 := Lib.hid (S3.out.below hB4 S3.out.lt)
                                have HBf := Lib.hid T4.out.bl
                                clear hB4 c0 c1 c2 c3 c4 p0 p1 p2 p3 p4 p5 p6 s0 s1 s2 s3 s4 s5 l0 l1 l2
                                obtain ⟨c0, c1, c2, c3, c4⟩ := cells5' T4.out.b0
                                obtain ⟨p0, p1, p2, p3, p4, p5, p6⟩ := cells7g T4.out.b1
                                obtain ⟨s0, s1, s2, s3, s4, s5⟩ := cells6 S4.out
                                have l0 := T4.out.b0.lt
                                have l1 := T4.out.b1.lt
                                have l2 := S4.out.lt
                                go_wp2
                                go_ret
                                exact ⟨by rw [HE.out]; rfl, HBf.out⟩
                              · have z8 : (role == 11) = false := by simpa using k3
                                have HZ2 := Lib.hid (HXG.out (by unfold symBad; rw [if_neg k0, if_pos rfl, HZE.out, ← HYN.out, z8]; rfl))
                                clear HXB HXG
                                clear k0 k3
                                go_wp2_with fail
                                with_reducible refine (HEm _).out.mono ?_
                                rintro e w3 ⟨rfl, hB3⟩
                                have T3 := Lib.hid (TA.out.below hB3)
                                have S3 := Lib.hid (SA.out.below hB3 SA.out.lt)
                                have HBf := Lib.hid T3.out.bl
                                clear hB3
                                obtain ⟨c0, c1, c2, c3, c4⟩ := cells5' T3.out.b0
                                obtain ⟨p0, p1, p2, p3, p4, p5, p6⟩ := cells7g T3.out.b1
                                obtain ⟨s0, s1, s2, s3, s4, s5⟩ := cells6 S3.out
                                have l0 := T3.out.b0.lt
                                have l1 := T3.out.b1.lt
                                have l2 := S3.out.lt
                                go_wp2_with fail
                                with_reducible refine (HS1 _).out.mono ?_
                                rintro e w4 ⟨rfl, hB4⟩
                                have T4 := Lib.hid (T3.out.below hB4)
                                have S4 := Lib.hid (S3.out.below hB4 S3.out.lt)
                                have HBf := Lib.hid T4.out.bl
                                clear hB4 c0 c1 c2 c3 c4 p0 p1 p2 p3 p4 p5 p6 s0 s1 s2 s3 s4 s5 l0 l1 l2
                                obtain ⟨c0, c1, c2, c3, c4⟩ := cells5' T4.out.b0
                                obtain ⟨p0, p1, p2, p3, p4, p5, p6⟩ := cells7g T4.out.b1
                                obtain ⟨s0, s1, s2, s3, s4, s5⟩ := cells6 S4.out
                                have l0 := T4.out.b0.lt
                                have l1 := T4.out.b1.lt
                                have l2 := S4.out.lt
                                go_wp2
                                go_roundw
                                case rel => exact ⟨k + 1, by go_num, by omega, HZ2, T4⟩
                                case measure => simp [intOf]; omega
                        · have z9 : (sk == 1) = false := by simpa using k2
                          have z10 : (sk != 0) = true := by simpa using k0
                          have z11 : (sk != 1) = true := by simpa using k2
                          have HE := Lib.hid (HXB.out (by unfold symBad; rw [if_neg k0, if_neg k2]))
                          clear HXB HXG HB HY2
                          clear k0 k2
                          have HBf := Lib.hid TA.out.bl
                          go_wp2
                          go_ret
                          exact ⟨by rw [HE.out]; rfl, HBf.out⟩
                    · have HE := Lib.hid (HY2.out (fun i s hs => hS.out i s (by have := (List.getElem?_eq_some_iff.1 hs).1; have := HM.out; omega) hs))
                      obtain rfl : k = m := by omega
                      clear hS HB HY2
                      go_wp2
                      go_ret
                      exact ⟨by rw [HE.out]; rfl, T.out.bl⟩
                | true =>
                  cases avoid with
                  | false =>
                    have HE0 : Hid (rfirstB _ _ = false) := Lib.hid (by rw [HU.out]; simp [h1, h2, h3, h4, h5, he])
                    have HY2 := Lib.hid (HY.out HE0.out)
                    clear HF HY HU HE0
                    go_enter Tryz.func42, Tryz.ntmps42
                    go_wp2_with fail
                    with_reducible refine HS0.out.mono ?_
                    rintro e w1 ⟨rfl, hB1⟩
                    have T := Lib.hid (T0.out.below hB1)
                    clear hB1 T0 HS0
                    obtain ⟨c0, c1, c2, c3, c4⟩ := cells5' T.out.b0
                    obtain ⟨p0, p1, p2, p3, p4, p5, p6⟩ := cells7g T.out.b1
                    have l0 := T.out.b0.lt
                    have l1 := T.out.b1.lt
                    go_wp2
                    go_loopw [5] (fun i wr => ∃ k : Nat, i = .int .i64 k ∧ k ≤ m ∧ Hid (∀ (i : Nat) (s : SymM), i < k → right[i]? = some s → symBad ns role s = false) ∧ Hid (TwoG w wr #[.slice g.sa ns g.sc, .slice g.pa g.prods.length g.pc, .int .i64 g.start, .slice g.fa g.forbid.length g.fc, .slice g.wa g.follow.length g.wc] 65 #[.int .i64 left, .slice ra m rc, .string cons, .int .i64 role, .bool true, .bool false, .int .i64 frm])) (fun i _ => m - (intOf i).toNat)
                    case atStart => exact ⟨0, rfl, Nat.zero_le _, Lib.hid (fun j s hj => by omega), T⟩
                    case round =>
                      clear T c0 c1 c2 c3 c4 p0 p1 p2 p3 p4 p5 p6 l0 l1
                      obtain ⟨k, rfl, hk, hS, T⟩ := hrel
                      obtain ⟨c0, c1, c2, c3, c4⟩ := cells5' T.out.b0
                      obtain ⟨p0, p1, p2, p3, p4, p5, p6⟩ := cells7g T.out.b1
                      have l0 := T.out.b0.lt
                      have l1 := T.out.b1.lt
                      by_cases hlt : k < m
                      · obtain ⟨s, hs⟩ : ∃ s, right[k]? = some s := ⟨_, List.getElem?_eq_getElem (by rw [← HM.out]; exact hlt)⟩
                        obtain ⟨b1, o1, e1, hb1, hc1, _⟩ := HX.out k s hs
                        obtain ⟨x0, x1, x2, x3, x4, x5⟩ := Sym_at (hc1.below T.out.bl hb1)
                        have hb1' := Nat.lt_of_lt_of_le hb1 T.out.bl.size
                        have HXB : Hid (symBad ns role s = true → q = false) := Lib.hid (HB.out k s hs)
                        have HXG : Hid (symBad ns role s = false → ∀ (i : Nat) (s : SymM), i < k + 1 → right[i]? = some s → symBad ns role s = false) := Lib.hid (fun h i y hi hy => by
                          by_cases e : i = k
                          · subst e; rw [hs] at hy; cases hy; exact h
                          · exact hS.out i y (by omega) hy)
                        have z1 : (k : Int) < (m : Int) := by omega
                        have z0 : (0 : Int) ≤ (k : Int) := by omega
                        rw [e1] at p1
                        clear hs hc1 hS e1
                        obtain ⟨sk, ss, so⟩ := s
                        dsimp only at *
                        obtain ⟨z, hz⟩ : ∃ z, z = (ss == 0#256) := ⟨_, rfl⟩
                        have HZE : Hid ((ss == 0#256) = z) := Lib.hid hz.symm
                        have HEm : ∀ W, Hid (Calls Tryz.prog 44 #[.agg #[.int .u64 (wdI ss 0), .int .u64 (wdI ss 1), .int .u64 (wdI ss 2), .int .u64 (wdI ss 3)]] W fun e w' => e = .returned (.bool z) ∧ Below W.heap.size W w') := fun W => Lib.hid (by rw [hz]; exact empty_any ss W)
                        have hA : Below wr.heap.size wr (wr.alloc (.cells #[.int .i64 sk, .int .u64 (wdI ss 0), .int .u64 (wdI ss 1), .int .u64 (wdI ss 2), .int .u64 (wdI ss 3), .int .i64 so] 60)) := (Below.refl _ wr).alloc (Nat.le_refl _) _
                        have TA := Lib.hid (T.out.below hA)
                        have SA := Lib.hid (Blk.new wr 60 #[.int .i64 sk, .int .u64 (wdI ss 0), .int .u64 (wdI ss 1), .int .u64 (wdI ss 2), .int .u64 (wdI ss 3), .int .i64 so])
                        clear hz hA T
                        by_cases k0 : sk = 0
                        · subst k0
                          cases z with
                          | true =>
                            have HE := Lib.hid (HXB.out (by unfold symBad; rw [if_pos rfl, HZE.out]; rfl))
                            clear HXB HXG HB HY2
                            go_wp2_with fail
                            with_reducible refine (HEm _).out.mono ?_
                            rintro e w3 ⟨rfl, hB3⟩
                            have T3 := Lib.hid (TA.out.below hB3)
                            have S3 := Lib.hid (SA.out.below hB3 SA.out.lt)
                            have HBf := Lib.hid T3.out.bl
                            clear hB3
                            obtain ⟨c0, c1, c2, c3, c4⟩ := cells5' T3.out.b0
                            obtain ⟨p0, p1, p2, p3, p4, p5, p6⟩ := cells7g T3.out.b1
                            obtain ⟨s0, s1, s2, s3, s4, s5⟩ := cells6 S3.out
                            have l0 := T3.out.b0.lt
                            have l1 := T3.out.b1.lt
                            have l2 := S3.out.lt
                            go_wp2
                            go_ret
                            exact ⟨by rw [HE.out]; rfl, HBf.out⟩
                          | false =>
                            by_cases k1 : so = 0
                            · subst k1
                              have HZ2 := Lib.hid (HXG.out (by unfold symBad; rw [if_pos rfl, HZE.out]; rfl))
                              clear HXB HXG
                              go_wp2_with fail
                              with_reducible refine (HEm _).out.mono ?_
                              rintro e w3 ⟨rfl, hB3⟩
                              have T3 := Lib.hid (TA.out.below hB3)
                              have S3 := Lib.hid (SA.out.below hB3 SA.out.lt)
                              have HBf := Lib.hid T3.out.bl
                              clear hB3
                              obtain ⟨c0, c1, c2, c3, c4⟩ := cells5' T3.out.b0
                              obtain ⟨p0, p1, p2, p3, p4, p5, p6⟩ := cells7g T3.out.b1
                              obtain ⟨s0, s1, s2, s3, s4, s5⟩ := cells6 S3.out
                              have l0 := T3.out.b0.lt
                              have l1 := T3.out.b1.lt
                              have l2 := S3.out.lt
                              go_wp2
                              go_roundw
                              case rel => exact ⟨k + 1, by go_num, by omega, HZ2, T3⟩
                              case measure => simp [intOf]; omega
                            · have z5 : (so != 0) = true := by simpa using k1
                              have z6 : (so == 0) = false := by simpa using k1
                              have HE := Lib.hid (HXB.out (by unfold symBad; rw [if_pos rfl, HZE.out, z6]; rfl))
                              clear HXB HXG HB HY2
                              clear k1
                              go_wp2_with fail
                              with_reducible refine (HEm _).out.mono ?_
                              rintro e w3 ⟨rfl, hB3⟩
                              have T3 := Lib.hid (TA.out.below hB3)
                              have S3 := Lib.hid (SA.out.below hB3 SA.out.lt)
                              have HBf := Lib.hid T3.out.bl
                              clear hB3
                              obtain ⟨c0, c1, c2, c3, c4⟩ := cells5' T3.out.b0
                              obtain ⟨p0, p1, p2, p3, p4, p5, p6⟩ := cells7g T3.out.b1
                              obtain ⟨s0, s1, s2, s3, s4, s5⟩ := cells6 S3.out
                              have l0 := T3.out.b0.lt
                              have l1 := T3.out.b1.lt
                              have l2 := S3.out.lt
                              go_wp2
                              go_ret
                              exact ⟨by rw [HE.out]; rfl, HBf.out⟩
                        · have z7 : (sk == 0) = false := by simpa using k0
                          by_cases k2 : sk = 1
                          · subst k2
                            cases z with
                            | false =>
                              have HE := Lib.hid (HXB.out (by unfold symBad; rw [if_neg k0, if_pos rfl, HZE.out]; rfl))
                              clear HXB HXG HB HY2
                              clear k0
                              go_wp2_with fail
                              with_reducible refine (HEm _).out.mono ?_
                              rintro e w3 ⟨rfl, hB3⟩
                              have T3 := Lib.hid (TA.out.below hB3)
                              have S3 := Lib.hid (SA.out.below hB3 SA.out.lt)
                              have HBf := Lib.hid T3.out.bl
                              clear hB3
                              obtain ⟨c0, c1, c2, c3, c4⟩ := cells5' T3.out.b0
                              obtain ⟨p0, p1, p2, p3, p4, p5, p6⟩ := cells7g T3.out.b1
                              obtain ⟨s0, s1, s2, s3, s4, s5⟩ := cells6 S3.out
                              have l0 := T3.out.b0.lt
                              have l1 := T3.out.b1.lt
                              have l2 := S3.out.lt
                              go_wp2
                              go_ret
                              exact ⟨by rw [HE.out]; rfl, HBf.out⟩
                            | true =>
                              obtain ⟨y, hy⟩ : ∃ y, y = numB so ns := ⟨_, rfl⟩
                              have HYN := Lib.hid hy
                              have HS1 : ∀ W, Hid (Calls Tryz.prog 41 #[.agg #[.slice g.sa ns g.sc, .slice g.pa g.prods.length g.pc, .int .i64 g.start, .slice g.fa g.forbid.length g.fc, .slice g.wa g.follow.length g.wc], .int .i64 so] W fun e w' => e = .returned (.bool y) ∧ Below W.heap.size W w') := fun W => Lib.hid (by rw [hy]; exact (HSo so W).out)
                              clear hy HSo
                              cases y with
                              | false =>
                                have HE := Lib.hid (HXB.out (by unfold symBad; rw [if_neg k0, if_pos rfl, HZE.out, ← HYN.out]; rfl))
                                clear HXB HXG HB HY2
                                clear k0
                                go_wp2_with fail
                                with_reducible refine (HEm _).out.mono ?_
                                rintro e w3 ⟨rfl, hB3⟩
                                have T3 := Lib.hid (TA.out.below hB3)
                                have S3 := Lib.hid (SA.out.below hB3 SA.out.lt)
                                have HBf := Lib.hid T3.out.bl
                                clear hB3
                                obtain ⟨c0, c1, c2, c3, c4⟩ := cells5' T3.out.b0
                                obtain ⟨p0, p1, p2, p3, p4, p5, p6⟩ := cells7g T3.out.b1
                                obtain ⟨s0, s1, s2, s3, s4, s5⟩ := cells6 S3.out
                                have l0 := T3.out.b0.lt
                                have l1 := T3.out.b1.lt
                                have l2 := S3.out.lt
                                go_wp2_with fail
                                with_reducible refine (HS1 _).out.mono ?_
                                rintro e w4 ⟨rfl, hB4⟩
                                have T4 := Lib.hid (T3.out.below hB4)
                                have S4 := Lib.hid (S3.out.below hB4 S3.out.lt)
                                have HBf := Lib.hid T4.out.bl
                                clear hB4 c0 c1 c2 c3 c4 p0 p1 p2 p3 p4 p5 p6 s0 s1 s2 s3 s4 s5 l0 l1 l2
                                obtain ⟨c0, c1, c2, c3, c4⟩ := cells5' T4.out.b0
                                obtain ⟨p0, p1, p2, p3, p4, p5, p6⟩ := cells7g T4.out.b1
                                obtain ⟨s0, s1, s2, s3, s4, s5⟩ := cells6 S4.out
                                have l0 := T4.out.b0.lt
                                have l1 := T4.out.b1.lt
                                have l2 := S4.out.lt
                                go_wp2
                                go_ret
                                exact ⟨by rw [HE.out]; rfl, HBf.out⟩
                              | true =>
                                by_cases k3 : role = 11
                                · have z8 : (role == 11) = true := by simpa using k3
                                  have HE := Lib.hid (HXB.out (by unfold symBad; rw [if_neg k0, if_pos rfl, HZE.out, ← HYN.out, z8]; rfl))
                                  clear HXB HXG HB HY2
                                  clear k0 k3
                                  go_wp2_with fail
                                  with_reducible refine (HEm _).out.mono ?_
                                  rintro e w3 ⟨rfl, hB3⟩
                                  have T3 := Lib.hid (TA.out.below hB3)
                                  have S3 := Lib.hid (SA.out.below hB3 SA.out.lt)
                                  have HBf := Lib.hid T3.out.bl
                                  clear hB3
                                  obtain ⟨c0, c1, c2, c3, c4⟩ := cells5' T3.out.b0
                                  obtain ⟨p0, p1, p2, p3, p4, p5, p6⟩ := cells7g T3.out.b1
                                  obtain ⟨s0, s1, s2, s3, s4, s5⟩ := cells6 S3.out
                                  have l0 := T3.out.b0.lt
                                  have l1 := T3.out.b1.lt
                                  have l2 := S3.out.lt
                                  go_wp2_with fail
                                  with_reducible refine (HS1 _).out.mono ?_
                                  rintro e w4 ⟨rfl, hB4⟩
                                  have T4 := Lib.hid (T3.out.below hB4)
                                  have S4 := Lib.hid (S3.out.below hB4 S3.out.lt)
                                  have HBf := Lib.hid T4.out.bl
                                  clear hB4 c0 c1 c2 c3 c4 p0 p1 p2 p3 p4 p5 p6 s0 s1 s2 s3 s4 s5 l0 l1 l2
                                  obtain ⟨c0, c1, c2, c3, c4⟩ := cells5' T4.out.b0
                                  obtain ⟨p0, p1, p2, p3, p4, p5, p6⟩ := cells7g T4.out.b1
                                  obtain ⟨s0, s1, s2, s3, s4, s5⟩ := cells6 S4.out
                                  have l0 := T4.out.b0.lt
                                  have l1 := T4.out.b1.lt
                                  have l2 := S4.out.lt
                                  go_wp2
                                  go_ret
                                  exact ⟨by rw [HE.out]; rfl, HBf.out⟩
                                · have z8 : (role == 11) = false := by simpa using k3
                                  have HZ2 := Lib.hid (HXG.out (by unfold symBad; rw [if_neg k0, if_pos rfl, HZE.out, ← HYN.out, z8]; rfl))
                                  clear HXB HXG
                                  clear k0 k3
                                  go_wp2_with fail
                                  with_reducible refine (HEm _).out.mono ?_
                                  rintro e w3 ⟨rfl, hB3⟩
                                  have T3 := Lib.hid (TA.out.below hB3)
                                  have S3 := Lib.hid (SA.out.below hB3 SA.out.lt)
                                  have HBf := Lib.hid T3.out.bl
                                  clear hB3
                                  obtain ⟨c0, c1, c2, c3, c4⟩ := cells5' T3.out.b0
                                  obtain ⟨p0, p1, p2, p3, p4, p5, p6⟩ := cells7g T3.out.b1
                                  obtain ⟨s0, s1, s2, s3, s4, s5⟩ := cells6 S3.out
                                  have l0 := T3.out.b0.lt
                                  have l1 := T3.out.b1.lt
                                  have l2 := S3.out.lt
                                  go_wp2_with fail
                                  with_reducible refine (HS1 _).out.mono ?_
                                  rintro e w4 ⟨rfl, hB4⟩
                                  have T4 := Lib.hid (T3.out.below hB4)
                                  have S4 := Lib.hid (S3.out.below hB4 S3.out.lt)
                                  have HBf := Lib.hid T4.out.bl
                                  clear hB4 c0 c1 c2 c3 c4 p0 p1 p2 p3 p4 p5 p6 s0 s1 s2 s3 s4 s5 l0 l1 l2
                                  obtain ⟨c0, c1, c2, c3, c4⟩ := cells5' T4.out.b0
                                  obtain ⟨p0, p1, p2, p3, p4, p5, p6⟩ := cells7g T4.out.b1
                                  obtain ⟨s0, s1, s2, s3, s4, s5⟩ := cells6 S4.out
                                  have l0 := T4.out.b0.lt
                                  have l1 := T4.out.b1.lt
                                  have l2 := S4.out.lt
                                  go_wp2
                                  go_roundw
                                  case rel => exact ⟨k + 1, by go_num, by omega, HZ2, T4⟩
                                  case measure => simp [intOf]; omega
                          · have z9 : (sk == 1) = false := by simpa using k2
                            have z10 : (sk != 0) = true := by simpa using k0
                            have z11 : (sk != 1) = true := by simpa using k2
                            have HE := Lib.hid (HXB.out (by unfold symBad; rw [if_neg k0, if_neg k2]))
                            clear HXB HXG HB HY2
                            clear k0 k2
                            have HBf := Lib.hid TA.out.bl
                            go_wp2
                            go_ret
                            exact ⟨by rw [HE.out]; rfl, HBf.out⟩
                      · have HE := Lib.hid (HY2.out (fun i s hs => hS.out i s (by have := (List.getElem?_eq_some_iff.1 hs).1; have := HM.out; omega) hs))
                        obtain rfl : k = m := by omega
                        clear hS HB HY2
                        go_wp2
                        go_ret
                        exact ⟨by rw [HE.out]; rfl, T.out.bl⟩
                  | true =>
                    have HE : Hid (q = false) := Lib.hid (HF.out (by rw [HU.out]; simp []))
                    clear HF HB HY HU
                    go_enter Tryz.func42, Tryz.ntmps42
                    go_wp2_with fail
                    with_reducible refine HS0.out.mono ?_
                    rintro e w1 ⟨rfl, hB1⟩
                    have T := Lib.hid (T0.out.below hB1)
                    clear hB1 T0 HS0
                    obtain ⟨c0, c1, c2, c3, c4⟩ := cells5' T.out.b0
                    obtain ⟨p0, p1, p2, p3, p4, p5, p6⟩ := cells7g T.out.b1
                    have l0 := T.out.b0.lt
                    have l1 := T.out.b1.lt
                    go_wp2
                    go_ret
                    exact ⟨by rw [HE.out]; rfl, T.out.bl⟩
              | false =>
                have z1 : ¬ cons.toList = [] := by simpa using he
                by_cases hz : role = 0
                · have hz2 : (role == 0) = true := by simpa using hz
                  have hz3 : (role != 0) = false := by simpa using hz
                  have Hz := Lib.hid hz
                  clear hz
                  cases prefer with
                  | false =>
                    have HE0 : Hid (rfirstB _ _ = false) := Lib.hid (by rw [HU.out]; simp [h1, h2, h3, h4, h5, he, hz2])
                    have HY2 := Lib.hid (HY.out HE0.out)
                    clear HF HY HU HE0
                    go_enter Tryz.func42, Tryz.ntmps42
                    go_wp2_with fail
                    with_reducible refine HS0.out.mono ?_
                    rintro e w1 ⟨rfl, hB1⟩
                    have T := Lib.hid (T0.out.below hB1)
                    clear hB1 T0 HS0
                    obtain ⟨c0, c1, c2, c3, c4⟩ := cells5' T.out.b0
                    obtain ⟨p0, p1, p2, p3, p4, p5, p6⟩ := cells7g T.out.b1
                    have l0 := T.out.b0.lt
                    have l1 := T.out.b1.lt
                    go_wp2
                    go_loopw [5] (fun i wr => ∃ k : Nat, i = .int .i64 k ∧ k ≤ m ∧ Hid (∀ (i : Nat) (s : SymM), i < k → right[i]? = some s → symBad ns role s = false) ∧ Hid (TwoG w wr #[.slice g.sa ns g.sc, .slice g.pa g.prods.length g.pc, .int .i64 g.start, .slice g.fa g.forbid.length g.fc, .slice g.wa g.follow.length g.wc] 65 #[.int .i64 left, .slice ra m rc, .string cons, .int .i64 role, .bool false, .bool avoid, .int .i64 frm])) (fun i _ => m - (intOf i).toNat)
                    case atStart => exact ⟨0, rfl, Nat.zero_le _, Lib.hid (fun j s hj => by omega), T⟩
                    case round =>
                      clear T c0 c1 c2 c3 c4 p0 p1 p2 p3 p4 p5 p6 l0 l1
                      obtain ⟨k, rfl, hk, hS, T⟩ := hrel
                      obtain ⟨c0, c1, c2, c3, c4⟩ := cells5' T.out.b0
                      obtain ⟨p0, p1, p2, p3, p4, p5, p6⟩ := cells7g T.out.b1
                      have l0 := T.out.b0.lt
                      have l1 := T.out.b1.lt
                      by_cases hlt : k < m
                      · obtain ⟨s, hs⟩ : ∃ s, right[k]? = some s := ⟨_, List.getElem?_eq_getElem (by rw [← HM.out]; exact hlt)⟩
                        obtain ⟨b1, o1, e1, hb1, hc1, _⟩ := HX.out k s hs
                        obtain ⟨x0, x1, x2, x3, x4, x5⟩ := Sym_at (hc1.below T.out.bl hb1)
                        have hb1' := Nat.lt_of_lt_of_le hb1 T.out.bl.size
                        have HXB : Hid (symBad ns role s = true → q = false) := Lib.hid (HB.out k s hs)
                        have HXG : Hid (symBad ns role s = false → ∀ (i : Nat) (s : SymM), i < k + 1 → right[i]? = some s → symBad ns role s = false) := Lib.hid (fun h i y hi hy => by
                          by_cases e : i = k
                          · subst e; rw [hs] at hy; cases hy; exact h
                          · exact hS.out i y (by omega) hy)
                        have z1 : (k : Int) < (m : Int) := by omega
                        have z0 : (0 : Int) ≤ (k : Int) := by omega
                        rw [e1] at p1
                        clear hs hc1 hS e1
                        obtain ⟨sk, ss, so⟩ := s
                        dsimp only at *
                        obtain ⟨z, hz⟩ : ∃ z, z = (ss == 0#256) := ⟨_, rfl⟩
                        have HZE : Hid ((ss == 0#256) = z) := Lib.hid hz.symm
                        have HEm : ∀ W, Hid (Calls Tryz.prog 44 #[.agg #[.int .u64 (wdI ss 0), .int .u64 (wdI ss 1), .int .u64 (wdI ss 2), .int .u64 (wdI ss 3)]] W fun e w' => e = .returned (.bool z) ∧ Below W.heap.size W w') := fun W => Lib.hid (by rw [hz]; exact empty_any ss W)
                        have hA : Below wr.heap.size wr (wr.alloc (.cells #[.int .i64 sk, .int .u64 (wdI ss 0), .int .u64 (wdI ss 1), .int .u64 (wdI ss 2), .int .u64 (wdI ss 3), .int .i64 so] 60)) := (Below.refl _ wr).alloc (Nat.le_refl _) _
                        have TA := Lib.hid (T.out.below hA)
                        have SA := Lib.hid (Blk.new wr 60 #[.int .i64 sk, .int .u64 (wdI ss 0), .int .u64 (wdI ss 1), .int .u64 (wdI ss 2), .int .u64 (wdI ss 3), .int .i64 so])
                        clear hz hA T
                        by_cases k0 : sk = 0
                        · subst k0
                          cases z with
                          | true =>
                            have HE := Lib.hid (HXB.out (by unfold symBad; rw [if_pos rfl, HZE.out]; rfl))
                            clear HXB HXG HB HY2
                            go_wp2_with fail
                            with_reducible refine (HEm _).out.mono ?_
                            rintro e w3 ⟨rfl, hB3⟩
                            have T3 := Lib.hid (TA.out.below hB3)
                            have S3 := Lib.hid (SA.out.below hB3 SA.out.lt)
                            have HBf := Lib.hid T3.out.bl
                            clear hB3
                            obtain ⟨c0, c1, c2, c3, c4⟩ := cells5' T3.out.b0
                            obtain ⟨p0, p1, p2, p3, p4, p5, p6⟩ := cells7g T3.out.b1
                            obtain ⟨s0, s1, s2, s3, s4, s5⟩ := cells6 S3.out
                            have l0 := T3.out.b0.lt
                            have l1 := T3.out.b1.lt
                            have l2 := S3.out.lt
                            go_wp2
                            go_ret
                            exact ⟨by rw [HE.out]; rfl, HBf.out⟩
                          | false =>
                            by_cases k1 : so = 0
                            · subst k1
                              have HZ2 := Lib.hid (HXG.out (by unfold symBad; rw [if_pos rfl, HZE.out]; rfl))
                              clear HXB HXG
                              go_wp2_with fail
                              with_reducible refine (HEm _).out.mono ?_
                              rintro e w3 ⟨rfl, hB3⟩
                              have T3 := Lib.hid (TA.out.below hB3)
                              have S3 := Lib.hid (SA.out.below hB3 SA.out.lt)
                              have HBf := Lib.hid T3.out.bl
                              clear hB3
                              obtain ⟨c0, c1, c2, c3, c4⟩ := cells5' T3.out.b0
                              obtain ⟨p0, p1, p2, p3, p4, p5, p6⟩ := cells7g T3.out.b1
                              obtain ⟨s0, s1, s2, s3, s4, s5⟩ := cells6 S3.out
                              have l0 := T3.out.b0.lt
                              have l1 := T3.out.b1.lt
                              have l2 := S3.out.lt
                              go_wp2
                              go_roundw
                              case rel => exact ⟨k + 1, by go_num, by omega, HZ2, T3⟩
                              case measure => simp [intOf]; omega
                            · have z5 : (so != 0) = true := by simpa using k1
                              have z6 : (so == 0) = false := by simpa using k1
                              have HE := Lib.hid (HXB.out (by unfold symBad; rw [if_pos rfl, HZE.out, z6]; rfl))
                              clear HXB HXG HB HY2
                              clear k1
                              go_wp2_with fail
                              with_reducible refine (HEm _).out.mono ?_
                              rintro e w3 ⟨rfl, hB3⟩
                              have T3 := Lib.hid (TA.out.below hB3)
                              have S3 := Lib.hid (SA.out.below hB3 SA.out.lt)
                              have HBf := Lib.hid T3.out.bl
                              clear hB3
                              obtain ⟨c0, c1, c2, c3, c4⟩ := cells5' T3.out.b0
                              obtain ⟨p0, p1, p2, p3, p4, p5, p6⟩ := cells7g T3.out.b1
                              obtain ⟨s0, s1, s2, s3, s4, s5⟩ := cells6 S3.out
                              have l0 := T3.out.b0.lt
                              have l1 := T3.out.b1.lt
                              have l2 := S3.out.lt
                              go_wp2
                              go_ret
                              exact ⟨by rw [HE.out]; rfl, HBf.out⟩
                        · have z7 : (sk == 0) = false := by simpa using k0
                          by_cases k2 : sk = 1
                          · subst k2
                            cases z with
                            | false =>
                              have HE := Lib.hid (HXB.out (by unfold symBad; rw [if_neg k0, if_pos rfl, HZE.out]; rfl))
                              clear HXB HXG HB HY2
                              clear k0
                              go_wp2_with fail
                              with_reducible refine (HEm _).out.mono ?_
                              rintro e w3 ⟨rfl, hB3⟩
                              have T3 := Lib.hid (TA.out.below hB3)
                              have S3 := Lib.hid (SA.out.below hB3 SA.out.lt)
                              have HBf := Lib.hid T3.out.bl
                              clear hB3
                              obtain ⟨c0, c1, c2, c3, c4⟩ := cells5' T3.out.b0
                              obtain ⟨p0, p1, p2, p3, p4, p5, p6⟩ := cells7g T3.out.b1
                              obtain ⟨s0, s1, s2, s3, s4, s5⟩ := cells6 S3.out
                              have l0 := T3.out.b0.lt
                              have l1 := T3.out.b1.lt
                              have l2 := S3.out.lt
                              go_wp2
                              go_ret
                              exact ⟨by rw [HE.out]; rfl, HBf.out⟩
                            | true =>
                              obtain ⟨y, hy⟩ : ∃ y, y = numB so ns := ⟨_, rfl⟩
                              have HYN := Lib.hid hy
                              have HS1 : ∀ W, Hid (Calls Tryz.prog 41 #[.agg #[.slice g.sa ns g.sc, .slice g.pa g.prods.length g.pc, .int .i64 g.start, .slice g.fa g.forbid.length g.fc, .slice g.wa g.follow.length g.wc], .int .i64 so] W fun e w' => e = .returned (.bool y) ∧ Below W.heap.size W w') := fun W => Lib.hid (by rw [hy]; exact (HSo so W).out)
                              clear hy HSo
                              cases y with
                              | false =>
                                have HE := Lib.hid (HXB.out (by unfold symBad; rw [if_neg k0, if_pos rfl, HZE.out, ← HYN.out]; rfl))
                                clear HXB HXG HB HY2
                                clear k0
                                go_wp2_with fail
                                with_reducible refine (HEm _).out.mono ?_
                                rintro e w3 ⟨rfl, hB3⟩
                                have T3 := Lib.hid (TA.out.below hB3)
                                have S3 := Lib.hid (SA.out.below hB3 SA.out.lt)
                                have HBf := Lib.hid T3.out.bl
                                clear hB3
                                obtain ⟨c0, c1, c2, c3, c4⟩ := cells5' T3.out.b0
                                obtain ⟨p0, p1, p2, p3, p4, p5, p6⟩ := cells7g T3.out.b1
                                obtain ⟨s0, s1, s2, s3, s4, s5⟩ := cells6 S3.out
                                have l0 := T3.out.b0.lt
                                have l1 := T3.out.b1.lt
                                have l2 := S3.out.lt
                                go_wp2_with fail
                                with_reducible refine (HS1 _).out.mono ?_
                                rintro e w4 ⟨rfl, hB4⟩
                                have T4 := Lib.hid (T3.out.below hB4)
                                have S4 := Lib.hid (S3.out.below hB4 S3.out.lt)
                                have HBf := Lib.hid T4.out.bl
                                clear hB4 c0 c1 c2 c3 c4 p0 p1 p2 p3 p4 p5 p6 s0 s1 s2 s3 s4 s5 l0 l1 l2
                                obtain ⟨c0, c1, c2, c3, c4⟩ := cells5' T4.out.b0
                                obtain ⟨p0, p1, p2, p3, p4, p5, p6⟩ := cells7g T4.out.b1
                                obtain ⟨s0, s1, s2, s3, s4, s5⟩ := cells6 S4.out
                                have l0 := T4.out.b0.lt
                                have l1 := T4.out.b1.lt
                                have l2 := S4.out.lt
                                go_wp2
                                go_ret
                                exact ⟨by rw [HE.out]; rfl, HBf.out⟩
                              | true =>
                                by_cases k3 : role = 11
                                · have z8 : (role == 11) = true := by simpa using k3
                                  have HE := Lib.hid (HXB.out (by unfold symBad; rw [if_neg k0, if_pos rfl, HZE.out, ← HYN.out, z8]; rfl))
                                  clear HXB HXG HB HY2
                                  clear k0 k3
                                  go_wp2_with fail
                                  with_reducible refine (HEm _).out.mono ?_
                                  rintro e w3 ⟨rfl, hB3⟩
                                  have T3 := Lib.hid (TA.out.below hB3)
                                  have S3 := Lib.hid (SA.out.below hB3 SA.out.lt)
                                  have HBf := Lib.hid T3.out.bl
                                  clear hB3
                                  obtain ⟨c0, c1, c2, c3, c4⟩ := cells5' T3.out.b0
                                  obtain ⟨p0, p1, p2, p3, p4, p5, p6⟩ := cells7g T3.out.b1
                                  obtain ⟨s0, s1, s2, s3, s4, s5⟩ := cells6 S3.out
                                  have l0 := T3.out.b0.lt
                                  have l1 := T3.out.b1.lt
                                  have l2 := S3.out.lt
                                  go_wp2_with fail
                                  with_reducible refine (HS1 _).out.mono ?_
                                  rintro e w4 ⟨rfl, hB4⟩
                                  have T4 := Lib.hid (T3.out.below hB4)
                                  have S4 := Lib.hid (S3.out.below hB4 S3.out.lt)
                                  have HBf := Lib.hid T4.out.bl
                                  clear hB4 c0 c1 c2 c3 c4 p0 p1 p2 p3 p4 p5 p6 s0 s1 s2 s3 s4 s5 l0 l1 l2
                                  obtain ⟨c0, c1, c2, c3, c4⟩ := cells5' T4.out.b0
                                  obtain ⟨p0, p1, p2, p3, p4, p5, p6⟩ := cells7g T4.out.b1
                                  obtain ⟨s0, s1, s2, s3, s4, s5⟩ := cells6 S4.out
                                  have l0 := T4.out.b0.lt
                                  have l1 := T4.out.b1.lt
                                  have l2 := S4.out.lt
                                  go_wp2
                                  go_ret
                                  exact ⟨by rw [HE.out]; rfl, HBf.out⟩
                                · have z8 : (role == 11) = false := by simpa using k3
                                  have HZ2 := Lib.hid (HXG.out (by unfold symBad; rw [if_neg k0, if_pos rfl, HZE.out, ← HYN.out, z8]; rfl))
                                  clear HXB HXG
                                  clear k0 k3
                                  go_wp2_with fail
                                  with_reducible refine (HEm _).out.mono ?_
                                  rintro e w3 ⟨rfl, hB3⟩
                                  have T3 := Lib.hid (TA.out.below hB3)
                                  have S3 := Lib.hid (SA.out.below hB3 SA.out.lt)
                                  have HBf := Lib.hid T3.out.bl
                                  clear hB3
                                  obtain ⟨c0, c1, c2, c3, c4⟩ := cells5' T3.out.b0
                                  obtain ⟨p0, p1, p2, p3, p4, p5, p6⟩ := cells7g T3.out.b1
                                  obtain ⟨s0, s1, s2, s3, s4, s5⟩ := cells6 S3.out
                                  have l0 := T3.out.b0.lt
                                  have l1 := T3.out.b1.lt
                                  have l2 := S3.out.lt
                                  go_wp2_with fail
                                  with_reducible refine (HS1 _).out.mono ?_
                                  rintro e w4 ⟨rfl, hB4⟩
                                  have T4 := Lib.hid (T3.out.below hB4)
                                  have S4 := Lib.hid (S3.out.below hB4 S3.out.lt)
                                  have HBf := Lib.hid T4.out.bl
                                  clear hB4 c0 c1 c2 c3 c4 p0 p1 p2 p3 p4 p5 p6 s0 s1 s2 s3 s4 s5 l0 l1 l2
                                  obtain ⟨c0, c1, c2, c3, c4⟩ := cells5' T4.out.b0
                                  obtain ⟨p0, p1, p2, p3, p4, p5, p6⟩ := cells7g T4.out.b1
                                  obtain ⟨s0, s1, s2, s3, s4, s5⟩ := cells6 S4.out
                                  have l0 := T4.out.b0.lt
                                  have l1 := T4.out.b1.lt
                                  have l2 := S4.out.lt
                                  go_wp2
                                  go_roundw
                                  case rel => exact ⟨k + 1, by go_num, by omega, HZ2, T4⟩
                                  case measure => simp [intOf]; omega
                          · have z9 : (sk == 1) = false := by simpa using k2
                            have z10 : (sk != 0) = true := by simpa using k0
                            have z11 : (sk != 1) = true := by simpa using k2
                            have HE := Lib.hid (HXB.out (by unfold symBad; rw [if_neg k0, if_neg k2]))
                            clear HXB HXG HB HY2
                            clear k0 k2
                            have HBf := Lib.hid TA.out.bl
                            go_wp2
                            go_ret
                            exact ⟨by rw [HE.out]; rfl, HBf.out⟩
                      · have HE := Lib.hid (HY2.out (fun i s hs => hS.out i s (by have := (List.getElem?_eq_some_iff.1 hs).1; have := HM.out; omega) hs))
                        obtain rfl : k = m := by omega
                        clear hS HB HY2
                        go_wp2
                        go_ret
                        exact ⟨by rw [HE.out]; rfl, T.out.bl⟩
                  | true =>
                    cases avoid with
                    | false =>
                      have HE0 : Hid (rfirstB _ _ = false) := Lib.hid (by rw [HU.out]; simp [h1, h2, h3, h4, h5, he, hz2])
                      have HY2 := Lib.hid (HY.out HE0.out)
                      clear HF HY HU HE0
                      go_enter Tryz.func42, Tryz.ntmps42
                      go_wp2_with fail
                      with_reducible refine HS0.out.mono ?_
                      rintro e w1 ⟨rfl, hB1⟩
                      have T := Lib.hid (T0.out.below hB1)
                      clear hB1 T0 HS0
                      obtain ⟨c0, c1, c2, c3, c4⟩ := cells5' T.out.b0
                      obtain ⟨p0, p1, p2, p3, p4, p5, p6⟩ := cells7g T.out.b1
                      have l0 := T.out.b0.lt
                      have l1 := T.out.b1.lt
                      go_wp2
                      go_loopw [5] (fun i wr => ∃ k : Nat, i = .int .i64 k ∧ k ≤ m ∧ Hid (∀ (i : Nat) (s : SymM), i < k → right[i]? = some s → symBad ns role s = false) ∧ Hid (TwoG w wr #[.slice g.sa ns g.sc, .slice g.pa g.prods.length g.pc, .int .i64 g.start, .slice g.fa g.forbid.length g.fc, .slice g.wa g.follow.length g.wc] 65 #[.int .i64 left, .slice ra m rc, .string cons, .int .i64 role, .bool true, .bool false, .int .i64 frm])) (fun i _ => m - (intOf i).toNat)
                      case atStart => exact ⟨0, rfl, Nat.zero_le _, Lib.hid (fun j s hj => by omega), T⟩
                      case round =>
                        clear T c0 c1 c2 c3 c4 p0 p1 p2 p3 p4 p5 p6 l0 l1
                        obtain ⟨k, rfl, hk, hS, T⟩ := hrel
                        obtain ⟨c0, c1, c2, c3, c4⟩ := cells5' T.out.b0
                        obtain ⟨p0, p1, p2, p3, p4, p5, p6⟩ := cells7g T.out.b1
                        have l0 := T.out.b0.lt
                        have l1 := T.out.b1.lt
                        by_cases hlt : k < m
                        · obtain ⟨s, hs⟩ : ∃ s, right[k]? = some s := ⟨_, List.getElem?_eq_getElem (by rw [← HM.out]; exact hlt)⟩
                          obtain ⟨b1, o1, e1, hb1, hc1, _⟩ := HX.out k s hs
                          obtain ⟨x0, x1, x2, x3, x4, x5⟩ := Sym_at (hc1.below T.out.bl hb1)
                          have hb1' := Nat.lt_of_lt_of_le hb1 T.out.bl.size
                          have HXB : Hid (symBad ns role s = true → q = false) := Lib.hid (HB.out k s hs)
                          have HXG : Hid (symBad ns role s = false → ∀ (i : Nat) (s : SymM), i < k + 1 → right[i]? = some s → symBad ns role s = false) := Lib.hid (fun h i y hi hy => by
                            by_cases e : i = k
                            · subst e; rw [hs] at hy; cases hy; exact h
                            · exact hS.out i y (by omega) hy)
                          have z1 : (k : Int) < (m : Int) := by omega
                          have z0 : (0 : Int) ≤ (k : Int) := by omega
                          rw [e1] at p1
                          clear hs hc1 hS e1
                          obtain ⟨sk, ss, so⟩ := s
                          dsimp only at *
                          obtain ⟨z, hz⟩ : ∃ z, z = (ss == 0#256) := ⟨_, rfl⟩
                          have HZE : Hid ((ss == 0#256) = z) := Lib.hid hz.symm
                          have HEm : ∀ W, Hid (Calls Tryz.prog 44 #[.agg #[.int .u64 (wdI ss 0), .int .u64 (wdI ss 1), .int .u64 (wdI ss 2), .int .u64 (wdI ss 3)]] W fun e w' => e = .returned (.bool z) ∧ Below W.heap.size W w') := fun W => Lib.hid (by rw [hz]; exact empty_any ss W)
                          have hA : Below wr.heap.size wr (wr.alloc (.cells #[.int .i64 sk, .int .u64 (wdI ss 0), .int .u64 (wdI ss 1), .int .u64 (wdI ss 2), .int .u64 (wdI ss 3), .int .i64 so] 60)) := (Below.refl _ wr).alloc (Nat.le_refl _) _
                          have TA := Lib.hid (T.out.below hA)
                          have SA := Lib.hid (Blk.new wr 60 #[.int .i64 sk, .int .u64 (wdI ss 0), .int .u64 (wdI ss 1), .int .u64 (wdI ss 2), .int .u64 (wdI ss 3), .int .i64 so])
                          clear hz hA T
                          by_cases k0 : sk = 0
                          · subst k0
                            cases z with
                            | true =>
                              have HE := Lib.hid (HXB.out (by unfold symBad; rw [if_pos rfl, HZE.out]; rfl))
                              clear HXB HXG HB HY2
                              go_wp2_with fail
                              with_reducible refine (HEm _).out.mono ?_
                              rintro e w3 ⟨rfl, hB3⟩
                              have T3 := Lib.hid (TA.out.below hB3)
                              have S3 := Lib.hid (SA.out.below hB3 SA.out.lt)
                              have HBf := Lib.hid T3.out.bl
                              clear hB3
                              obtain ⟨c0, c1, c2, c3, c4⟩ := cells5' T3.out.b0
                              obtain ⟨p0, p1, p2, p3, p4, p5, p6⟩ := cells7g T3.out.b1
                              obtain ⟨s0, s1, s2, s3, s4, s5⟩ := cells6 S3.out
                              have l0 := T3.out.b0.lt
                              have l1 := T3.out.b1.lt
                              have l2 := S3.out.lt
                              go_wp2
                              go_ret
                              exact ⟨by rw [HE.out]; rfl, HBf.out⟩
                            | false =>
                              by_cases k1 : so = 0
                              · subst k1
                                have HZ2 := Lib.hid (HXG.out (by unfold symBad; rw [if_pos rfl, HZE.out]; rfl))
                                clear HXB HXG
                                go_wp2_with fail
                                with_reducible refine (HEm _).out.mono ?_
                                rintro e w3 ⟨rfl, hB3⟩
                                have T3 := Lib.hid (TA.out.below hB3)
                                have S3 := Lib.hid (SA.out.below hB3 SA.out.lt)
                                have HBf := Lib.hid T3.out.bl
                                clear hB3
                                obtain ⟨c0, c1, c2, c3, c4⟩ := cells5' T3.out.b0
                                obtain ⟨p0, p1, p2, p3, p4, p5, p6⟩ := cells7g T3.out.b1
                                obtain ⟨s0, s1, s2, s3, s4, s5⟩ := cells6 S3.out
                                have l0 := T3.out.b0.lt
                                have l1 := T3.out.b1.lt
                                have l2 := S3.out.lt
                                go_wp2
                                go_roundw
                                case rel => exact ⟨k + 1, by go_num, by omega, HZ2, T3⟩
                                case measure => simp [intOf]; omega
                              · have z5 : (so != 0) = true := by simpa using k1
                                have z6 : (so == 0) = false := by simpa using k1
                                have HE := Lib.hid (HXB.out (by unfold symBad; rw [if_pos rfl, HZE.out, z6]; rfl))
                                clear HXB HXG HB HY2
                                clear k1
                                go_wp2_with fail
                                with_reducible refine (HEm _).out.mono ?_
                                rintro e w3 ⟨rfl, hB3⟩
                                have T3 := Lib.hid (TA.out.below hB3)
                                have S3 := Lib.hid (SA.out.below hB3 SA.out.lt)
                                have HBf := Lib.hid T3.out.bl
                                clear hB3
                                obtain ⟨c0, c1, c2, c3, c4⟩ := cells5' T3.out.b0
                                obtain ⟨p0, p1, p2, p3, p4, p5, p6⟩ := cells7g T3.out.b1
                                obtain ⟨s0, s1, s2, s3, s4, s5⟩ := cells6 S3.out
                                have l0 := T3.out.b0.lt
                                have l1 := T3.out.b1.lt
                                have l2 := S3.out.lt
                                go_wp2
                                go_ret
                                exact ⟨by rw [HE.out]; rfl, HBf.out⟩
                          · have z7 : (sk == 0) = false := by simpa using k0
                            by_cases k2 : sk = 1
                            · subst k2
                              cases z with
                              | false =>
                                have HE := Lib.hid (HXB.out (by unfold symBad; rw [if_neg k0, if_pos rfl, HZE.out]; rfl))
                                clear HXB HXG HB HY2
                                clear k0
                                go_wp2_with fail
                                with_reducible refine (HEm _).out.mono ?_
                                rintro e w3 ⟨rfl, hB3⟩
                                have T3 := Lib.hid (TA.out.below hB3)
                                have S3 := Lib.hid (SA.out.below hB3 SA.out.lt)
                                have HBf := Lib.hid T3.out.bl
                                clear hB3
                                obtain ⟨c0, c1, c2, c3, c4⟩ := cells5' T3.out.b0
                                obtain ⟨p0, p1, p2, p3, p4, p5, p6⟩ := cells7g T3.out.b1
                                obtain ⟨s0, s1, s2, s3, s4, s5⟩ := cells6 S3.out
                                have l0 := T3.out.b0.lt
                                have l1 := T3.out.b1.lt
                                have l2 := S3.out.lt
                                go_wp2
                                go_ret
                                exact ⟨by rw [HE.out]; rfl, HBf.out⟩
                              | true =>
                                obtain ⟨y, hy⟩ : ∃ y, y = numB so ns := ⟨_, rfl⟩
                                have HYN := Lib.hid hy
                                have HS1 : ∀ W, Hid (Calls Tryz.prog 41 #[.agg #[.slice g.sa ns g.sc, .slice g.pa g.prods.length g.pc, .int .i64 g.start, .slice g.fa g.forbid.length g.fc, .slice g.wa g.follow.length g.wc], .int .i64 so] W fun e w' => e = .returned (.bool y) ∧ Below W.heap.size W w') := fun W => Lib.hid (by rw [hy]; exact (HSo so W).out)
                                clear hy HSo
                                cases y with
                                | false =>
                                  have HE := Lib.hid (HXB.out (by unfold symBad; rw [if_neg k0, if_pos rfl, HZE.out, ← HYN.out]; rfl))
                                  clear HXB HXG HB HY2
                                  clear k0
                                  go_wp2_with fail
                                  with_reducible refine (HEm _).out.mono ?_
                                  rintro e w3 ⟨rfl, hB3⟩
                                  have T3 := Lib.hid (TA.out.below hB3)
                                  have S3 := Lib.hid (SA.out.below hB3 SA.out.lt)
                                  have HBf := Lib.hid T3.out.bl
                                  clear hB3
                                  obtain ⟨c0, c1, c2, c3, c4⟩ := cells5' T3.out.b0
                                  obtain ⟨p0, p1, p2, p3, p4, p5, p6⟩ := cells7g T3.out.b1
                                  obtain ⟨s0, s1, s2, s3, s4, s5⟩ := cells6 S3.out
                                  have l0 := T3.out.b0.lt
                                  have l1 := T3.out.b1.lt
                                  have l2 := S3.out.lt
                                  go_wp2_with fail
                                  with_reducible refine (HS1 _).out.mono ?_
                                  rintro e w4 ⟨rfl, hB4⟩
                                  have T4 := Lib.hid (T3.out.below hB4)
                                  have S4 := Lib.hid (S3.out.below hB4 S3.out.lt)
                                  have HBf := Lib.hid T4.out.bl
                                  clear hB4 c0 c1 c2 c3 c4 p0 p1 p2 p3 p4 p5 p6 s0 s1 s2 s3 s4 s5 l0 l1 l2
                                  obtain ⟨c0, c1, c2, c3, c4⟩ := cells5' T4.out.b0
                                  obtain ⟨p0, p1, p2, p3, p4, p5, p6⟩ := cells7g T4.out.b1
                                  obtain ⟨s0, s1, s2, s3, s4, s5⟩ := cells6 S4.out
                                  have l0 := T4.out.b0.lt
                                  have l1 := T4.out.b1.lt
                                  have l2 := S4.out.lt
                                  go_wp2
                                  go_ret
                                  exact ⟨by rw [HE.out]; rfl, HBf.out⟩
                                | true =>
                                  by_cases k3 : role = 11
                                  · have z8 : (role == 11) = true := by simpa using k3
                                    have HE := Lib.hid (HXB.out (by unfold symBad; rw [if_neg k0, if_pos rfl, HZE.out, ← HYN.out, z8]; rfl))
                                    clear HXB HXG HB HY2
                                    clear k0 k3
                                    go_wp2_with fail
                                    with_reducible refine (HEm _).out.mono ?_
                                    rintro e w3 ⟨rfl, hB3⟩
                                    have T3 := Lib.hid (TA.out.below hB3)
                                    have S3 := Lib.hid (SA.out.below hB3 SA.out.lt)
                                    have HBf := Lib.hid T3.out.bl
                                    clear hB3
                                    obtain ⟨c0, c1, c2, c3, c4⟩ := cells5' T3.out.b0
                                    obtain ⟨p0, p1, p2, p3, p4, p5, p6⟩ := cells7g T3.out.b1
                                    obtain ⟨s0, s1, s2, s3, s4, s5⟩ := cells6 S3.out
                                    have l0 := T3.out.b0.lt
                                    have l1 := T3.out.b1.lt
                                    have l2 := S3.out.lt
                                    go_wp2_with fail
                                    with_reducible refine (HS1 _).out.mono ?_
                                    rintro e w4 ⟨rfl, hB4⟩
                                    have T4 := Lib.hid (T3.out.below hB4)
                                    have S4 := Lib.hid (S3.out.below hB4 S3.out.lt)
                                    have HBf := Lib.hid T4.out.bl
                                    clear hB4 c0 c1 c2 c3 c4 p0 p1 p2 p3 p4 p5 p6 s0 s1 s2 s3 s4 s5 l0 l1 l2
                                    obtain ⟨c0, c1, c2, c3, c4⟩ := cells5' T4.out.b0
                                    obtain ⟨p0, p1, p2, p3, p4, p5, p6⟩ := cells7g T4.out.b1
                                    obtain ⟨s0, s1, s2, s3, s4, s5⟩ := cells6 S4.out
                                    have l0 := T4.out.b0.lt
                                    have l1 := T4.out.b1.lt
                                    have l2 := S4.out.lt
                                    go_wp2
                                    go_ret
                                    exact ⟨by rw [HE.out]; rfl, HBf.out⟩
                                  · have z8 : (role == 11) = false := by simpa using k3
                                    have HZ2 := Lib.hid (HXG.out (by unfold symBad; rw [if_neg k0, if_pos rfl, HZE.out, ← HYN.out, z8]; rfl))
                                    clear HXB HXG
                                    clear k0 k3
                                    go_wp2_with fail
                                    with_reducible refine (HEm _).out.mono ?_
                                    rintro e w3 ⟨rfl, hB3⟩
                                    have T3 := Lib.hid (TA.out.below hB3)
                                    have S3 := Lib.hid (SA.out.below hB3 SA.out.lt)
                                    have HBf := Lib.hid T3.out.bl
                                    clear hB3
                                    obtain ⟨c0, c1, c2, c3, c4⟩ := cells5' T3.out.b0
                                    obtain ⟨p0, p1, p2, p3, p4, p5, p6⟩ := cells7g T3.out.b1
                                    obtain ⟨s0, s1, s2, s3, s4, s5⟩ := cells6 S3.out
                                    have l0 := T3.out.b0.lt
                                    have l1 := T3.out.b1.lt
                                    have l2 := S3.out.lt
                                    go_wp2_with fail
                                    with_reducible refine (HS1 _).out.mono ?_
                                    rintro e w4 ⟨rfl, hB4⟩
                                    have T4 := Lib.hid (T3.out.below hB4)
                                    have S4 := Lib.hid (S3.out.below hB4 S3.out.lt)
                                    have HBf := Lib.hid T4.out.bl
                                    clear hB4 c0 c1 c2 c3 c4 p0 p1 p2 p3 p4 p5 p6 s0 s1 s2 s3 s4 s5 l0 l1 l2
                                    obtain ⟨c0, c1, c2, c3, c4⟩ := cells5' T4.out.b0
                                    obtain ⟨p0, p1, p2, p3, p4, p5, p6⟩ := cells7g T4.out.b1
                                    obtain ⟨s0, s1, s2, s3, s4, s5⟩ := cells6 S4.out
                                    have l0 := T4.out.b0.lt
                                    have l1 := T4.out.b1.lt
                                    have l2 := S4.out.lt
                                    go_wp2
                                    go_roundw
                                    case rel => exact ⟨k + 1, by go_num, by omega, HZ2, T4⟩
                                    case measure => simp [intOf]; omega
                            · have z9 : (sk == 1) = false := by simpa using k2
                              have z10 : (sk != 0) = true := by simpa using k0
                              have z11 : (sk != 1) = true := by simpa using k2
                              have HE := Lib.hid (HXB.out (by unfold symBad; rw [if_neg k0, if_neg k2]))
                              clear HXB HXG HB HY2
                              clear k0 k2
                              have HBf := Lib.hid TA.out.bl
                              go_wp2
                              go_ret
                              exact ⟨by rw [HE.out]; rfl, HBf.out⟩
                        · have HE := Lib.hid (HY2.out (fun i s hs => hS.out i s (by have := (List.getElem?_eq_some_iff.1 hs).1; have := HM.out; omega) hs))
                          obtain rfl : k = m := by omega
                          clear hS HB HY2
                          go_wp2
                          go_ret
                          exact ⟨by rw [HE.out]; rfl, T.out.bl⟩
                    | true =>
                      have HE : Hid (q = false) := Lib.hid (HF.out (by rw [HU.out]; simp []))
                      clear HF HB HY HU
                      go_enter Tryz.func42, Tryz.ntmps42
                      go_wp2_with fail
                      with_reducible refine HS0.out.mono ?_
                      rintro e w1 ⟨rfl, hB1⟩
                      have T := Lib.hid (T0.out.below hB1)
                      clear hB1 T0 HS0
                      obtain ⟨c0, c1, c2, c3, c4⟩ := cells5' T.out.b0
                      obtain ⟨p0, p1, p2, p3, p4, p5, p6⟩ := cells7g T.out.b1
                      have l0 := T.out.b0.lt
                      have l1 := T.out.b1.lt
                      go_wp2
                      go_ret
                      exact ⟨by rw [HE.out]; rfl, T.out.bl⟩
                · have hz2 : (role == 0) = false := by simpa using hz
                  have hz3 : (role != 0) = true := by simpa using hz
                  have HE : Hid (q = false) := Lib.hid (HF.out (by rw [HU.out]; simp [he, hz2]))
                  clear HF HB HY HU
                  clear hz
                  go_enter Tryz.func42, Tryz.ntmps42
                  go_wp2_with fail
                  with_reducible refine HS0.out.mono ?_
                  rintro e w1 ⟨rfl, hB1⟩
                  have T := Lib.hid (T0.out.below hB1)
                  clear hB1 T0 HS0
                  obtain ⟨c0, c1, c2, c3, c4⟩ := cells5' T.out.b0
                  obtain ⟨p0, p1, p2, p3, p4, p5, p6⟩ := cells7g T.out.b1
                  have l0 := T.out.b0.lt
                  have l1 := T.out.b1.lt
                  go_wp2
                  go_ret
                  exact ⟨by rw [HE.out]; rfl, T.out.bl⟩
end Go.Proofs.YtodnlcbnbkkanaaGreatDoor
end
section
namespace Go.Proofs.YtodnlcbnbkkanaaGreatDoor
open Go Go.RowKit

set_option maxRecDepth 100000 in
set_option maxHeartbeats 2000000 in
/-- The reference's can. -/
theorem can_any (x : ProdM) (L : List Bool) (aL : Option Addr) (cL : Nat) (w : World) (hx : ProdIn w x) (hrow : RowBool w aL L) (hn : x.right.length ≤ 1048576) (hL : L.length ≤ 1048576)
    (hs : ∀ s, s ∈ x.right → s.kind = 1 → ∃ k : Nat, s.sort = k ∧ k < L.length) :
    Calls Tryz.prog 50 #[prodV x, .slice aL L.length cL] w fun e w' => e = .returned (.bool (okP L x)) ∧ Below w.heap.size w w' := by
  have HB0 : Hid (Blk (w.alloc (.cells (prodC x) 65)) w.heap.size 65 (prodC x) ∧ Below w.heap.size w (w.alloc (.cells (prodC x) 65))) := Lib.hid ⟨Blk.new w 65 _, (Below.refl _ _).alloc (Nat.le_refl _) _⟩
  have HX := Lib.hid hx
  have HL := Lib.hid hrow
  have HS := Lib.hid hs
  obtain ⟨q, hq⟩ : ∃ q, q = okP L x := ⟨_, rfl⟩
  rw [← hq]
  have HQ : Hid (q = (!(x.role == 11) && x.right.all (sortB (lv L)))) := Lib.hid hq
  have HN : Hid (∀ (i : Nat) (s : SymM), x.right[i]? = some s → sortB (lv L) s = false → q = false) := Lib.hid fun i s hi h => by
    rw [HQ.out, List.all_eq_false.2 ⟨s, List.mem_of_getElem? hi, by rw [h]; simp⟩, Bool.and_false]
  have HY : Hid ((x.role == 11) = false → (∀ (i : Nat) (s : SymM), x.right[i]? = some s → sortB (lv L) s = true) → q = true) := Lib.hid fun h1 h => by
    rw [HQ.out, h1, List.all_eq_true.2 (fun s hm => by obtain ⟨i, hi⟩ := List.mem_iff_getElem?.1 hm; exact h i s hi)]; rfl
  obtain ⟨n, hn'⟩ : ∃ n : Nat, n = x.right.length := ⟨_, rfl⟩
  have HNL := Lib.hid hn'
  obtain ⟨m, hm⟩ : ∃ n : Nat, n = L.length := ⟨_, rfl⟩
  have HML := Lib.hid hm
  rw [← hn'] at hn
  rw [← hm] at hL
  clear hx hrow hs hq
  unfold prodV prodC at *
  rw [← hn'] at HB0 ⊢
  rw [← hm]
  clear hn' hm
  cases k0 : (x.role == 11) with
  | true =>
    have HE : Hid (q = false) := Lib.hid (by rw [HQ.out, k0]; rfl)
    clear HQ HN HY
    go_enter Tryz.func50, Tryz.ntmps50
    go_wp2
    go_ret
    exact ⟨by rw [HE.out]; rfl, HB0.out.2⟩
  | false =>
    have HY2 := Lib.hid (HY.out k0)
    clear HY HQ
    go_enter Tryz.func50, Tryz.ntmps50
    go_wp2
    go_loopw [5] (fun vi wr => ∃ k : Nat, vi = .int .i64 k ∧ k ≤ n ∧ Hid (∀ (i : Nat) (s : SymM), i < k → x.right[i]? = some s → sortB (lv L) s = true) ∧ Hid (Blk wr w.heap.size 65 #[.int .i64 x.left, .slice x.ra n x.rc, .string x.cons, .int .i64 x.role, .bool x.prefer, .bool x.avoid, .int .i64 x.frm] ∧ Below w.heap.size w wr)) (fun vi _ => n - (intOf vi).toNat)
    case atStart => exact ⟨0, rfl, Nat.zero_le _, Lib.hid (fun j s hj => by omega), HB0⟩
    case round =>
      clear HB0
      obtain ⟨k, rfl, hk, hS, K⟩ := hrel
      obtain ⟨p0, p1, p2, p3, p4, p5, p6⟩ := cells7g K.out.1
      have l0 := K.out.1.lt
      by_cases hlt : k < n
      · obtain ⟨s, hs⟩ : ∃ s, x.right[k]? = some s := ⟨_, List.getElem?_eq_getElem (by rw [← HNL.out]; exact hlt)⟩
        obtain ⟨b1, o1, e1, hb1, hc1, _⟩ := HX.out k s hs
        obtain ⟨x0, x1, x2, x3, x4, x5⟩ := Sym_at (hc1.below K.out.2 hb1)
        have hb1' := Nat.lt_of_lt_of_le hb1 K.out.2.size
        have z1 : (k : Int) < (n : Int) := by omega
        have z0 : (0 : Int) ≤ (k : Int) := by omega
        have HXB : Hid (sortB (lv L) s = false → q = false) := Lib.hid (HN.out k s hs)
        have HXG : Hid (sortB (lv L) s = true → ∀ (i : Nat) (y : SymM), i < k + 1 → x.right[i]? = some y → sortB (lv L) y = true) := Lib.hid (fun h i y hi hy => by
          by_cases e : i = k
          · subst e; rw [hs] at hy; cases hy; exact h
          · exact hS.out i y (by omega) hy)
        have HSk := Lib.hid (HS.out s (List.mem_of_getElem? hs))
        rw [e1] at p1
        clear hs hc1 hS e1
        obtain ⟨sk, ss, so⟩ := s
        dsimp only at *
        cases k1 : (sk == 1) with
        | false =>
          have HZ2 := Lib.hid (HXG.out (by unfold sortB; rw [k1]; rfl))
          clear HXB HXG HSk
          go_wp2
          go_roundw
          case rel => exact ⟨k + 1, by go_num, by omega, HZ2, K⟩
          case measure => simp [intOf]; omega
        | true =>
          obtain ⟨j, rfl, hj⟩ := HSk.out (by simpa using k1)
          obtain ⟨b2, o2, rfl, hb2, hc2, ht⟩ := HL.out j _ (List.getElem?_eq_getElem hj)
          have y0 := Bool_at (hc2.below K.out.2 hb2)
          have hlv : lv L (j : Int) = L[j] := by unfold lv; simp [List.getD_eq_getElem?_getD, hj]
          rw [← hlv, Nat.mul_one] at y0
          have hb2' := Nat.lt_of_lt_of_le hb2 K.out.2.size
          have z3 : (j : Int) < (m : Int) := by have := HML.out; omega
          have z4 : (0 : Int) ≤ (j : Int) := by omega
          obtain ⟨v, hv⟩ : ∃ v, v = lv L (j : Int) := ⟨_, rfl⟩
          have HV := Lib.hid hv
          rw [← hv] at y0
          clear ht hc2 hlv hv hj HSk HL
          cases v with
          | false =>
            have HE := Lib.hid (HXB.out (by unfold sortB; rw [k1, ← HV.out]; rfl))
            clear HXB HXG HN
            go_wp2
            go_ret
            exact ⟨by rw [HE.out]; rfl, K.out.2⟩
          | true =>
            have HZ2 := Lib.hid (HXG.out (by unfold sortB; rw [k1, ← HV.out]; rfl))
            clear HXB HXG
            go_wp2
            go_roundw
            case rel => exact ⟨k + 1, by go_num, by omega, HZ2, K⟩
            case measure => simp [intOf]; omega
      · obtain rfl : n = k := by omega
        have HE := Lib.hid (HY2.out (fun i s hs => hS.out i s (by have := (List.getElem?_eq_some_iff.1 hs).1; have := HNL.out; omega) hs))
        clear hS HY2 HN
        go_wp2
        go_ret
        exact ⟨by rw [HE.out]; rfl, K.out.2⟩

theorem count_set_le {L : List Bool} (i : Nat) : (L.set i true).count false ≤ L.count false := by
  induction L generalizing i with
  | nil => simp
  | cons b r ih =>
    cases i with
    | zero => cases b <;> simp
    | succ i => simp only [List.set_cons_succ, List.count_cons]; have := ih i; omega
theorem set_same {L : List Bool} {i : Nat} (h : L[i]? = some true) : L.set i true = L := by
  apply List.ext_getElem?
  intro k
  rw [List.getElem?_set]
  split
  · next e => subst e; rw [h]; have := (List.getElem?_eq_some_iff.1 h).1; simp [this]
  · rfl
theorem closed_full {g : GramM} {L : List Bool} (hm : MayB g) (hl : L.length = g.sorts.length) (h : L.count false = 0) : Closed g L := by
  intro x hx _
  obtain ⟨k, hk, hkn⟩ := hm.left x hx
  refine lv_some ?_
  rw [hk, Int.toNat_natCast, List.getElem?_eq_getElem (by omega)]
  cases e : L[k]'(by omega) with
  | true => rfl
  | false =>
    have : false ∈ L := by rw [← e]; exact List.getElem_mem _
    have := List.count_pos_iff.2 this
    omega

/-- How far a round of the reference's Productive has come. -/
def RoundP (g : GramM) (r : Nat) (L0 : List Bool) (j : Nat) (L : List Bool) : Prop :=
  (L = L0 ∧ (∀ (i : Nat) (x : ProdM), i < j → g.prods[i]? = some x → okP L0 x = true → lv L0 x.left = true) ∧ (Closed g L0 ∨ r + L0.count false ≤ g.sorts.length)) ∨ r + 1 + L.count false ≤ g.sorts.length
theorem RoundP.no {g : GramM} {r : Nat} {L0 : List Bool} {j : Nat} {L : List Bool} (h : RoundP g r L0 j L) {x : ProdM} (hx : g.prods[j]? = some x) (hc : okP L x = false) : RoundP g r L0 (j + 1) L := by
  rcases h with ⟨rfl, h1, h2⟩ | h
  · refine .inl ⟨rfl, fun i y hi hy hok => ?_, h2⟩
    by_cases e : i = j
    · subst e; rw [hx] at hy; cases hy; rw [hc] at hok; cases hok
    · exact h1 i y (by omega) hy hok
  · exact .inr h
theorem RoundP.yes {g : GramM} {r : Nat} {L0 : List Bool} {j : Nat} {L : List Bool} (h : RoundP g r L0 j L) (hl : L.length = g.sorts.length) {x : ProdM} (hx : g.prods[j]? = some x) {k : Nat} (hk : x.left = k) (hkn : k < g.sorts.length) (hc : okP L x = true) : RoundP g r L0 (j + 1) (L.set k true) := by
  rcases h with ⟨rfl, h1, h2⟩ | h
  · cases e : L[k]'(by omega) with
    | true =>
      have e' : L[k]? = some true := by rw [List.getElem?_eq_getElem (by omega), e]
      rw [set_same e']
      refine .inl ⟨rfl, fun i y hi hy hok => ?_, h2⟩
      by_cases ei : i = j
      · subst ei; rw [hx] at hy; cases hy; refine lv_some ?_; rw [hk, Int.toNat_natCast]; exact e'
      · exact h1 i y (by omega) hy hok
    | false =>
      have e' : L[k]? = some false := by rw [List.getElem?_eq_getElem (by omega), e]
      have hcnt := count_set e'
      rcases h2 with h2 | h2
      · have := lv_true (h2 x (List.mem_of_getElem? hx) hc)
        rw [hk, Int.toNat_natCast, e'] at this
        cases this
      · exact .inr (by omega)
  · have := count_set_le (L := L) k
    exact .inr (by omega)
theorem RoundP.done {g : GramM} {r : Nat} {L0 L : List Bool} (h : RoundP g r L0 g.prods.length L) : Closed g L ∨ r + 1 + L.count false ≤ g.sorts.length := by
  rcases h with ⟨rfl, h1, _⟩ | h
  · refine .inl fun x hx hok => ?_
    obtain ⟨i, hi⟩ := List.mem_iff_getElem?.1 hx
    exact h1 i x ((List.getElem?_eq_some_iff.1 hi).1) hi hok
  · exact .inr h

/-- What the reference's Productive's blocks hold. -/
structure PJ (g : GramM) (w wr : World) (L : List Bool) : Prop where
  b0 : Blk wr w.heap.size 27 (gramC g)
  b1 : Blk wr (w.heap.size + 1) 4 (bools L)
  b : Below w.heap.size w wr
  len : L.length = g.sorts.length
  sound : Sound g L
theorem PJ.below {g : GramM} {w wr W : World} {L : List Bool} (h : PJ g w wr L) (hB : Below wr.heap.size wr W) : PJ g w W L :=
  ⟨h.b0.below hB h.b0.lt, h.b1.below hB h.b1.lt, h.b.trans (hB.mono h.b.size), h.len, h.sound⟩
theorem PJ.set {g : GramM} {w wr : World} {L : List Bool} (h : PJ g w wr L) {x : ProdM} (hx : x ∈ g.prods) (k : Nat) (hk : x.left = k) (hc : okP L x = true) : PJ g w (wr.setCell ⟨w.heap.size + 1, k, none⟩ (.bool true)) (L.set k true) :=
  ⟨h.b0.other (by show w.heap.size ≠ w.heap.size + 1; omega) _, by rw [← bools_set]; exact h.b1.set k _,
    h.b.setCell (p := ⟨w.heap.size + 1, k, none⟩) (by show w.heap.size ≤ w.heap.size + 1; omega) _, by rw [List.length_set]; exact h.len, by
      have := sound_set h.sound hx hc
      rw [hk, Int.toNat_natCast] at this
      exact this⟩
end Go.Proofs.YtodnlcbnbkkanaaGreatDoor
end
