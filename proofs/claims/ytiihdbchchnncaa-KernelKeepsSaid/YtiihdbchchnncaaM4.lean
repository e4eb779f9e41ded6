import Derived.Deep.DeepCutAuto
import Derived.Deep.OwnRows
import Derived.Deep.LoopGhost
import Derived.Deep.Cut
import Derived.Laws.EntriesVeiled
import Derived.Test.YtiihdbchchnncaaM3
section
namespace Go.Proofs.Ytiihdbchchnncaa
open Go Go.RowKit

/-- What of two grammars' being the same the walk of the reference wants. -/
structure SameP (a b : GramM) (q : Bool) : Prop where
  st : a.start ≠ b.start → q = false
  l1 : a.sorts.length ≠ b.sorts.length → q = false
  l2 : a.prods.length ≠ b.prods.length → q = false
  l3 : a.forbid.length ≠ b.forbid.length → q = false
  l4 : a.follow.length ≠ b.follow.length → q = false
  e1 : ∀ (i : Nat) (x y : ByteArray), a.sorts[i]? = some x → b.sorts[i]? = some y → strEq x y = false → q = false
  e2 : ∀ (i : Nat) (x y : ProdM), a.prods[i]? = some x → b.prods[i]? = some y → prodEq x y = false → q = false
  e3 : ∀ (i : Nat) (x y : ForM), a.forbid[i]? = some x → b.forbid[i]? = some y → forEq x y = false → q = false
  e4 : ∀ (i : Nat) (x y : FolM), a.follow[i]? = some x → b.follow[i]? = some y → folEq x y = false → q = false
  yes : a.start = b.start → a.sorts.length = b.sorts.length → a.prods.length = b.prods.length → a.forbid.length = b.forbid.length → a.follow.length = b.follow.length →
    (∀ (i : Nat) (x y : ByteArray), a.sorts[i]? = some x → b.sorts[i]? = some y → strEq x y = true) → (∀ (i : Nat) (x y : ProdM), a.prods[i]? = some x → b.prods[i]? = some y → prodEq x y = true) →
    (∀ (i : Nat) (x y : ForM), a.forbid[i]? = some x → b.forbid[i]? = some y → forEq x y = true) → (∀ (i : Nat) (x y : FolM), a.follow[i]? = some x → b.follow[i]? = some y → folEq x y = true) → q = true
theorem sameP (a b : GramM) : SameP a b (sameG a b) := by
  unfold sameG
  constructor
  · intro h; simp [show (a.start == b.start) = false by simpa using h]
  · intro h; simp [eqL_len (q := strEq) h]
  · intro h; simp [eqL_len (q := prodEq) h]
  · intro h; simp [eqL_len (q := forEq) h]
  · intro h; simp [eqL_len (q := folEq) h]
  · intro i x y h1 h2 h3; simp [eqL_no i x y h1 h2 h3]
  · intro i x y h1 h2 h3; simp [eqL_no i x y h1 h2 h3]
  · intro i x y h1 h2 h3; simp [eqL_no i x y h1 h2 h3]
  · intro i x y h1 h2 h3; simp [eqL_no i x y h1 h2 h3]
  · intro h0 h1 h2 h3 h4 h5 h6 h7 h8; rw [eqL_yes h1 h5, eqL_yes h2 h6, eqL_yes h3 h7, eqL_yes h4 h8, h0]; simp

/-- The two boxes of a call of Same, and that nothing below has changed. -/
structure Two (w wr : World) (x y : Array Value) : Prop where
  b0 : Blk wr w.heap.size 27 x
  b1 : Blk wr (w.heap.size + 1) 27 y
  bl : Below w.heap.size w wr
theorem Two.start (w : World) (x y : Array Value) : Two w ((w.alloc (.cells x 27)).alloc (.cells y 27)) x y := by
  refine ⟨(Blk.new w 27 x).alloc _, ?_, ((Below.refl _ w).alloc (Nat.le_refl _) _).alloc (by simp) _⟩
  have h := Blk.new (w.alloc (.cells x 27)) 27 y
  rw [World.size_alloc] at h
  exact h
theorem Two.drew {w wr : World} {x y : Array Value} (h : Two w wr x y) : Two w wr.drew x y := ⟨h.b0.drew, h.b1.drew, h.bl.drew⟩

theorem two_box {w wr : World} {x y : Array Value} (h : Two w wr x y) (p r : ProdM) :
    Blk ((wr.alloc (.cells (prodC p) 46)).alloc (.cells (prodC r) 46)).drew wr.heap.size 46 (prodC p) ∧ Blk ((wr.alloc (.cells (prodC p) 46)).alloc (.cells (prodC r) 46)).drew (wr.heap.size + 1) 46 (prodC r) ∧
      Two w ((wr.alloc (.cells (prodC p) 46)).alloc (.cells (prodC r) 46)).drew x y := by
  refine ⟨(Blk.new wr 46 (prodC p)).alloc _, ?_, ⟨(h.b0.alloc _).alloc _, (h.b1.alloc _).alloc _, ((h.bl.alloc h.bl.size _).alloc (by have := h.bl.size; simp; omega) _).drew⟩⟩
  have k := Blk.new (wr.alloc (.cells (prodC p) 46)) 46 (prodC r)
  rw [World.size_alloc] at k
  exact k
theorem tri_mk {w W W0 : World} {Bx By c d : Nat} {x y X Y : Array Value} (hW : W = W0) (hx : Bx = c) (hy : By = d) (h1 : Blk W0 c 46 X) (h2 : Blk W0 d 46 Y) (h3 : Two w W0 x y) : Two w W x y ∧ Blk W Bx 46 X ∧ Blk W By 46 Y := by
  subst hW hx hy; exact ⟨h3, h1, h2⟩
theorem prodEq_no {x y : ProdM} (h : eqL symEq x.right y.right = false) : prodEq x y = false := by unfold prodEq; rw [h]; simp
theorem prodEq_no0 {x y : ProdM} (h : (x.left == y.left) = false) : prodEq x y = false := by unfold prodEq; rw [h]; simp
theorem prodEq_no1 {x y : ProdM} (h : (x.cons.toList == y.cons.toList) = false) : prodEq x y = false := by unfold prodEq; rw [h]; simp
theorem prodEq_no2 {x y : ProdM} (h : (x.role == y.role) = false) : prodEq x y = false := by unfold prodEq; rw [h]; simp
theorem prodEq_no3 {x y : ProdM} (h : (x.prefer == y.prefer) = false) : prodEq x y = false := by unfold prodEq; rw [h]; simp
theorem prodEq_no4 {x y : ProdM} (h : (x.avoid == y.avoid) = false) : prodEq x y = false := by unfold prodEq; rw [h]; simp
theorem prodEq_no5 {x y : ProdM} (h : (x.frm == y.frm) = false) : prodEq x y = false := by unfold prodEq; rw [h]; simp
theorem prodEq_true {x y : ProdM} (h0 : (x.left == y.left) = true) (h1 : (x.cons.toList == y.cons.toList) = true) (h2 : (x.role == y.role) = true) (h3 : (x.prefer == y.prefer) = true) (h4 : (x.avoid == y.avoid) = true) (h5 : (x.frm == y.frm) = true) :
    eqL symEq x.right y.right = true → prodEq x y = true := fun h => by unfold prodEq; rw [h, h0, h1, h2, h3, h4, h5]; rfl

set_option maxRecDepth 100000 in
set_option maxHeartbeats 8000000 in
theorem rsame_any (a b : GramM) (w : World) (ha : GIn w a) (hb : GIn w b) (fa : Fit a) (fb : Fit b) :
    Calls Try.prog 18 #[gramV a, gramV b] w fun e w' => e = .returned (.bool (sameG a b)) ∧ Below w.heap.size w w' := by
  obtain ⟨q, hq⟩ : ∃ q, q = sameG a b := ⟨_, rfl⟩
  have HQ := Lib.hid (sameP a b)
  rw [← hq] at HQ ⊢
  have HA := Lib.hid ha
  have HAB := Lib.hid hb
  have T0 := Lib.hid (Two.start w (gramC a) (gramC b))
  have hB0 := T0.out.bl
  have HB0 := Lib.hid hB0
  clear hq ha hb hB0
  obtain ⟨f1, f2, f3, f4, f5, _, _⟩ := fa
  obtain ⟨_, _, _, _, _, _, _⟩ := fb
  have F3 := Lib.hid f3
  clear f3
  unfold gramV gramC at *
  obtain ⟨n1, hn1⟩ : ∃ n, n = a.sorts.length := ⟨_, rfl⟩
  obtain ⟨n2, hn2⟩ : ∃ n, n = a.prods.length := ⟨_, rfl⟩
  obtain ⟨n3, hn3⟩ : ∃ n, n = a.forbid.length := ⟨_, rfl⟩
  obtain ⟨n4, hn4⟩ : ∃ n, n = a.follow.length := ⟨_, rfl⟩
  obtain ⟨m1, hm1⟩ : ∃ n, n = b.sorts.length := ⟨_, rfl⟩
  obtain ⟨m2, hm2⟩ : ∃ n, n = b.prods.length := ⟨_, rfl⟩
  obtain ⟨m3, hm3⟩ : ∃ n, n = b.forbid.length := ⟨_, rfl⟩
  obtain ⟨m4, hm4⟩ : ∃ n, n = b.follow.length := ⟨_, rfl⟩
  rw [← hn1, ← hm1, ← hn2, ← hm2, ← hn3, ← hm3, ← hn4, ← hm4] at T0 HB0 ⊢
  rw [← hn1] at f1
  rw [← hn2] at f2
  rw [← hn3] at f4
  rw [← hn4] at f5
  have N1 := Lib.hid hn1
  have N2 := Lib.hid hn2
  have N3 := Lib.hid hn3
  have N4 := Lib.hid hn4
  have M1 := Lib.hid hm1
  have M2 := Lib.hid hm2
  have M3 := Lib.hid hm3
  have M4 := Lib.hid hm4
  clear hn1 hn2 hn3 hn4 hm1 hm2 hm3 hm4
  by_cases e0 : a.start = b.start
  · have g0 : (a.start != b.start) = false := by simpa using e0
    have E0 := Lib.hid e0
    clear e0
    by_cases e1 : n1 = m1
    · subst e1
      by_cases e2 : n2 = m2
      · subst e2
        by_cases e3 : n3 = m3
        · subst e3
          by_cases e4 : n4 = m4
          · subst e4
            go_enter Try.func18, Try.ntmps18
            go_wp2
            go_loopw [5] (fun i wr => ∃ k : Nat, i = .int .i64 k ∧ k ≤ n1 ∧ Hid (∀ (i : Nat) (x y : ByteArray), i < k → a.sorts[i]? = some x → b.sorts[i]? = some y → strEq x y = true)
                ∧ Hid (Two w wr #[.slice a.sa n1 a.sc, .slice a.pa n2 a.pc, .int .i64 a.start, .slice a.fa n3 a.fc, .slice a.wa n4 a.wc] #[.slice b.sa n1 b.sc, .slice b.pa n2 b.pc, .int .i64 b.start, .slice b.fa n3 b.fc, .slice b.wa n4 b.wc]))
              (fun i _ => n1 - (intOf i).toNat)
            case atStart => exact ⟨0, rfl, Nat.zero_le _, Lib.hid (fun j x y hj => by omega), T0⟩
            case round =>
              clear HB0 T0
              obtain ⟨k, rfl, hk, hS, T⟩ := hrel
              obtain ⟨c0, c1, c2, c3, c4⟩ := cells5' T.out.b0
              obtain ⟨d0, d1, d2, d3, d4⟩ := cells5' T.out.b1
              have t0 := T.out.b0.lt
              have t1 := T.out.b1.lt
              by_cases hlt : k < n1
              · obtain ⟨x, hx⟩ : ∃ x, a.sorts[k]? = some x := ⟨_, List.getElem?_eq_getElem (by rw [← N1.out]; exact hlt)⟩
                obtain ⟨y, hy⟩ : ∃ y, b.sorts[k]? = some y := ⟨_, List.getElem?_eq_getElem (by rw [← M1.out]; exact hlt)⟩
                obtain ⟨b1, o1, e1, hb1, hc1, i1⟩ := HA.out.sorts k x hx
                obtain ⟨b2, o2, e2, hb2, hc2, i2⟩ := HAB.out.sorts k y hy
                have HX : Hid (strEq x y = false → q = false) := Lib.hid (HQ.out.e1 k x y hx hy)
                have HZ : Hid (strEq x y = true → ∀ (i : Nat) (x y : ByteArray), i < k + 1 → a.sorts[i]? = some x → b.sorts[i]? = some y → strEq x y = true) := Lib.hid (fun h i x' y' hi hx' hy' => by
                  by_cases e : i = k
                  · subst e; rw [hx] at hx'; rw [hy] at hy'; cases hx'; cases hy'; exact h
                  · exact hS.out i x' y' (by omega) hx' hy')
                have z1 : (k : Int) < (n1 : Int) := by omega
                have z0 : (0 : Int) ≤ (k : Int) := by omega
                have hb1' := Nat.lt_of_lt_of_le hb1 T.out.bl.size
                have hb2' := Nat.lt_of_lt_of_le hb2 T.out.bl.size
                have x1 := Str_at (hc1.below T.out.bl hb1)
                have x2 := Str_at (hc2.below T.out.bl hb2)
                simp only [Nat.mul_one] at x1 x2
                clear hx hy hc1 hc2 hS HQ HA HAB i1 i2
                rw [e1] at c0
                rw [e2] at d0
                clear e1 e2
                by_cases he : x.data.toList = y.data.toList
                · have g1 : (x.toList == y.toList) = true := by rw [toList_data, toList_data, he]; simp
                  have HZ2 := Lib.hid (HZ.out (by unfold strEq; simpa using he))
                  clear HX HZ he
                  go_wp2
                  go_region
                  go_wp2
                  go_roundw
                  case rel => exact ⟨k + 1, by go_num, by omega, HZ2, Lib.hid T.out.drew⟩
                  case measure => simp [intOf]; omega
                · have g1 : (x.toList == y.toList) = false := by rw [toList_data, toList_data]; simpa using he
                  have HE := Lib.hid (HX.out (by unfold strEq; simpa using he))
                  clear HX HZ he
                  go_wp2
                  go_region
                  go_wp2
                  go_ret
                  exact ⟨by rw [HE.out]; rfl, T.out.bl.drew⟩
              · have S1 := Lib.hid (fun (i : Nat) (x y : ByteArray) hx hy => hS.out i x y (by have := (List.getElem?_eq_some_iff.1 hx).1; have := N1.out; omega) hx hy)
                obtain rfl : k = n1 := by omega
                clear hS hk hlt
                go_wp2
                obtain ⟨n1, rfl⟩ : ∃ n : Nat, n = k := ⟨_, rfl⟩
                obtain ⟨wo1, rfl⟩ : ∃ wo : World, wo = wr := ⟨_, rfl⟩
                go_loopw [6] (fun i wr => ∃ k : Nat, i = .int .i64 k ∧ k ≤ n2 ∧ Hid (∀ (i : Nat) (x y : ProdM), i < k → a.prods[i]? = some x → b.prods[i]? = some y → prodEq x y = true)
                    ∧ Hid (Two w wr #[.slice a.sa n1 a.sc, .slice a.pa n2 a.pc, .int .i64 a.start, .slice a.fa n3 a.fc, .slice a.wa n4 a.wc] #[.slice b.sa n1 b.sc, .slice b.pa n2 b.pc, .int .i64 b.start, .slice b.fa n3 b.fc, .slice b.wa n4 b.wc]))
                  (fun i _ => n2 - (intOf i).toNat)
                case atStart => exact ⟨0, rfl, Nat.zero_le _, Lib.hid (fun j x y hj => by omega), T⟩
                case round =>
                  clear T c0 c1 c2 c3 c4 d0 d1 d2 d3 d4 t0 t1
                  obtain ⟨k, rfl, hk, hS, T⟩ := hrel
                  obtain ⟨c0, c1, c2, c3, c4⟩ := cells5' T.out.b0
                  obtain ⟨d0, d1, d2, d3, d4⟩ := cells5' T.out.b1
                  have t0 := T.out.b0.lt
                  have t1 := T.out.b1.lt
                  by_cases hlt : k < n2
                  · obtain ⟨x, hx⟩ : ∃ x, a.prods[k]? = some x := ⟨_, List.getElem?_eq_getElem (by rw [← N2.out]; exact hlt)⟩
                    obtain ⟨y, hy⟩ : ∃ y, b.prods[k]? = some y := ⟨_, List.getElem?_eq_getElem (by rw [← M2.out]; exact hlt)⟩
                    obtain ⟨b1, o1, e1, hb1, hc1, i1⟩ := HA.out.prods k x hx
                    obtain ⟨b2, o2, e2, hb2, hc2, i2⟩ := HAB.out.prods k y hy
                    have HX : Hid (prodEq x y = false → q = false) := Lib.hid (HQ.out.e2 k x y hx hy)
                    have HZ : Hid (prodEq x y = true → ∀ (i : Nat) (x y : ProdM), i < k + 1 → a.prods[i]? = some x → b.prods[i]? = some y → prodEq x y = true) := Lib.hid (fun h i x' y' hi hx' hy' => by
                      by_cases e : i = k
                      · subst e; rw [hx] at hx'; rw [hy] at hy'; cases hx'; cases hy'; exact h
                      · exact hS.out i x' y' (by omega) hx' hy')
                    have z1 : (k : Int) < (n2 : Int) := by omega
                    have z0 : (0 : Int) ≤ (k : Int) := by omega
                    have hb1' := Nat.lt_of_lt_of_le hb1 T.out.bl.size
                    have hb2' := Nat.lt_of_lt_of_le hb2 T.out.bl.size
                    obtain ⟨x10, x11, x12, x13, x14, x15, x16⟩ := Prod_at (hc1.below T.out.bl hb1)
                    obtain ⟨x20, x21, x22, x23, x24, x25, x26⟩ := Prod_at (hc2.below T.out.bl hb2)
                    have HI1 := Lib.hid i1
                    have HI2 := Lib.hid i2
                    have hxl := F3.out x (List.mem_of_getElem? hx)
                    rw [e1] at c1
                    rw [e2] at d1
                    clear hx hy hc1 hc2 hS i1 i2 e1 e2
                    have HXY := Lib.hid (two_box T.out x y)
                    have HYX := Lib.hid (two_box T.out y x)
                    unfold prodC at HXY HYX
                    go_wp2
                    go_upto_region 11 with fail
                    go_cut [7, 8] (fun s7 s8 wx => ∃ Bx By, s7 = .pointer (some ⟨Bx, 0, none⟩) ∧ s8 = .pointer (some ⟨By, 0, none⟩) ∧ Hid (Two w wx #[.slice a.sa n1 a.sc, .slice a.pa n2 a.pc, .int .i64 a.start, .slice a.fa n3 a.fc, .slice a.wa n4 a.wc] #[.slice b.sa n1 b.sc, .slice b.pa n2 b.pc, .int .i64 b.start, .slice b.fa n3 b.fc, .slice b.wa n4 b.wc] ∧ Blk wx Bx 46 #[.int .i64 x.left, .slice x.ra x.right.length x.rc, .string x.cons, .int .i64 x.role, .bool x.prefer, .bool x.avoid, .int .i64 x.frm] ∧ Blk wx By 46 #[.int .i64 y.left, .slice y.ra y.right.length y.rc, .string y.cons, .int .i64 y.role, .bool y.prefer, .bool y.avoid, .int .i64 y.frm]))
                    case first =>
                      go_wp2
                      go_region
                      all_goals (go_wp2; go_meet)
                      · exact ⟨_, _, rfl, rfl, Lib.hid ⟨HXY.out.2.2, HXY.out.1, HXY.out.2.1⟩⟩
                      · exact ⟨_, _, rfl, rfl, Lib.hid ⟨HYX.out.2.2, HYX.out.2.1, HYX.out.1⟩⟩
                    obtain ⟨Bx, By, rfl, rfl, TT⟩ := hcut
                    clear T c0 c1 c2 c3 c4 d0 d1 d2 d3 d4 t0 t1 HXY HYX x10 x11 x12 x13 x14 x15 x16 x20 x21 x22 x23 x24 x25 x26
                    obtain ⟨c0, c1, c2, c3, c4⟩ := cells5' TT.out.1.b0
                    obtain ⟨d0, d1, d2, d3, d4⟩ := cells5' TT.out.1.b1
                    have t0 := TT.out.1.b0.lt
                    have t1 := TT.out.1.b1.lt
                    obtain ⟨p0, p1, p2, p3, p4, p5, p6⟩ := cells7g TT.out.2.1
                    obtain ⟨q0, q1, q2, q3, q4, q5, q6⟩ := cells7g TT.out.2.2
                    have t2 := TT.out.2.1.lt
                    have t3 := TT.out.2.2.lt
                    cases h0 : (x.left == y.left)
                    · have HE := Lib.hid (HX.out (prodEq_no0 h0))
                      have z : (x.left != y.left) = true := by unfold bne; rw [h0]; rfl
                      clear HX HZ
                      go_wp2
                      go_ret
                      exact ⟨by rw [HE.out]; rfl, TT.out.1.bl⟩
                    · have z00 : (x.left != y.left) = false := by unfold bne; rw [h0]; rfl
                      cases h1 : (x.cons.toList == y.cons.toList)
                      · have HE := Lib.hid (HX.out (prodEq_no1 h1))
                        have z : (x.cons.toList != y.cons.toList) = true := by unfold bne; rw [h1]; rfl
                        clear HX HZ
                        go_wp2
                        go_ret
                        exact ⟨by rw [HE.out]; rfl, TT.out.1.bl⟩
                      · have z11 : (x.cons.toList != y.cons.toList) = false := by unfold bne; rw [h1]; rfl
                        cases h2 : (x.role == y.role)
                        · have HE := Lib.hid (HX.out (prodEq_no2 h2))
                          have z : (x.role != y.role) = true := by unfold bne; rw [h2]; rfl
                          clear HX HZ
                          go_wp2
                          go_ret
                          exact ⟨by rw [HE.out]; rfl, TT.out.1.bl⟩
                        · have z22 : (x.role != y.role) = false := by unfold bne; rw [h2]; rfl
                          cases h3 : (x.prefer == y.prefer)
                          · have HE := Lib.hid (HX.out (prodEq_no3 h3))
                            have z : (x.prefer != y.prefer) = true := by unfold bne; rw [h3]; rfl
                            clear HX HZ
                            go_wp2
                            go_ret
                            exact ⟨by rw [HE.out]; rfl, TT.out.1.bl⟩
                          · have z33 : (x.prefer != y.prefer) = false := by unfold bne; rw [h3]; rfl
                            cases h4 : (x.avoid == y.avoid)
                            · have HE := Lib.hid (HX.out (prodEq_no4 h4))
                              have z : (x.avoid != y.avoid) = true := by unfold bne; rw [h4]; rfl
                              clear HX HZ
                              go_wp2
                              go_ret
                              exact ⟨by rw [HE.out]; rfl, TT.out.1.bl⟩
                            · have z44 : (x.avoid != y.avoid) = false := by unfold bne; rw [h4]; rfl
                              cases h5 : (x.frm == y.frm)
                              · have HE := Lib.hid (HX.out (prodEq_no5 h5))
                                have z : (x.frm != y.frm) = true := by unfold bne; rw [h5]; rfl
                                clear HX HZ
                                go_wp2
                                go_ret
                                exact ⟨by rw [HE.out]; rfl, TT.out.1.bl⟩
                              · have z55 : (x.frm != y.frm) = false := by unfold bne; rw [h5]; rfl
                                by_cases hrl : x.right.length = y.right.length
                                · have GF := Lib.hid (prodEq_true (x := x) (y := y) h0 h1 h2 h3 h4 h5)
                                  obtain ⟨r1, hr1⟩ : ∃ r, r = x.right.length := ⟨_, rfl⟩
                                  rw [← hr1] at hrl hxl p1 TT
                                  rw [← hrl] at q1 TT
                                  have R1 := Lib.hid hr1
                                  have R2 := Lib.hid hrl
                                  clear hr1 hrl
                                  go_wp2
                                  obtain ⟨wi, rfl⟩ : ∃ wi : World, wi = wc := ⟨_, rfl⟩
                                  go_loopw [9] (fun i wr => ∃ j : Nat, i = .int .i64 j ∧ j ≤ r1 ∧ Hid (∀ (i : Nat) (s t : SymM), i < j → x.right[i]? = some s → y.right[i]? = some t → symEq s t = true)
                                      ∧ Hid (Two w wr #[.slice a.sa n1 a.sc, .slice a.pa n2 a.pc, .int .i64 a.start, .slice a.fa n3 a.fc, .slice a.wa n4 a.wc] #[.slice b.sa n1 b.sc, .slice b.pa n2 b.pc, .int .i64 b.start, .slice b.fa n3 b.fc, .slice b.wa n4 b.wc] ∧ Blk wr Bx 46 #[.int .i64 x.left, .slice x.ra r1 x.rc, .string x.cons, .int .i64 x.role, .bool x.prefer, .bool x.avoid, .int .i64 x.frm] ∧ Blk wr By 46 #[.int .i64 y.left, .slice y.ra r1 y.rc, .string y.cons, .int .i64 y.role, .bool y.prefer, .bool y.avoid, .int .i64 y.frm]))
                                    (fun i _ => r1 - (intOf i).toNat)
                                  case atStart => exact ⟨0, rfl, Nat.zero_le _, Lib.hid (fun j x y hj => by omega), TT⟩
                                  case round =>
                                    clear TT c0 c1 c2 c3 c4 d0 d1 d2 d3 d4 t0 t1 p0 p1 p2 p3 p4 p5 p6 q0 q1 q2 q3 q4 q5 q6 t2 t3
                                    obtain ⟨j, rfl, hj, hJ, TT⟩ := hrel
                                    obtain ⟨c0, c1, c2, c3, c4⟩ := cells5' TT.out.1.b0
                                    obtain ⟨d0, d1, d2, d3, d4⟩ := cells5' TT.out.1.b1
                                    have t0 := TT.out.1.b0.lt
                                    have t1 := TT.out.1.b1.lt
                                    obtain ⟨p0, p1, p2, p3, p4, p5, p6⟩ := cells7g TT.out.2.1
                                    obtain ⟨q0, q1, q2, q3, q4, q5, q6⟩ := cells7g TT.out.2.2
                                    have t2 := TT.out.2.1.lt
                                    have t3 := TT.out.2.2.lt
                                    by_cases hjl : j < r1
                                    · obtain ⟨s, hs⟩ : ∃ s, x.right[j]? = some s := ⟨_, List.getElem?_eq_getElem (by rw [← R1.out]; exact hjl)⟩
                                      obtain ⟨t, ht⟩ : ∃ s, y.right[j]? = some s := ⟨_, List.getElem?_eq_getElem (by rw [← R2.out]; exact hjl)⟩
                                      obtain ⟨b3, o3, e3, hb3, hc3, _⟩ := HI1.out j s hs
                                      obtain ⟨b4, o4, e4, hb4, hc4, _⟩ := HI2.out j t ht
                                      obtain ⟨s0, s1, s2, s3, s4, s5⟩ := Sym_at (hc3.below TT.out.1.bl hb3)
                                      obtain ⟨v0, v1, v2, v3, v4, v5⟩ := Sym_at (hc4.below TT.out.1.bl hb4)
                                      have hb3' := Nat.lt_of_lt_of_le hb3 TT.out.1.bl.size
                                      have hb4' := Nat.lt_of_lt_of_le hb4 TT.out.1.bl.size
                                      have HX2 : Hid (symEq s t = false → q = false) := Lib.hid (fun h => HX.out (prodEq_no (eqL_no j s t hs ht h)))
                                      have HZ2 : Hid (symEq s t = true → ∀ (i : Nat) (s t : SymM), i < j + 1 → x.right[i]? = some s → y.right[i]? = some t → symEq s t = true) := Lib.hid (fun h i x' y' hi hx' hy' => by
                                        by_cases e : i = j
                                        · subst e; rw [hs] at hx'; rw [ht] at hy'; cases hx'; cases hy'; exact h
                                        · exact hJ.out i x' y' (by omega) hx' hy')
                                      have z3 : (j : Int) < (r1 : Int) := by omega
                                      have z4 : (0 : Int) ≤ (j : Int) := by omega
                                      rw [e3] at p1
                                      rw [e4] at q1
                                      clear hs ht hc3 hc4 hJ e3 e4 HX HZ
                                      cases he : symEq s t
                                      · have g7 := fun w' => eq_syms 9996 s t w'
                                        simp only [he] at g7
                                        unfold symV symC at g7
                                        have HE := Lib.hid (HX2.out he)
                                        clear HX2 HZ2 he
                                        go_wp2
                                        go_region
                                        go_wp2
                                        go_ret
                                        exact ⟨by rw [HE.out]; rfl, TT.out.1.bl.drew⟩
                                      · have g7 := fun w' => eq_syms 9996 s t w'
                                        simp only [he] at g7
                                        unfold symV symC at g7
                                        have HZ3 := Lib.hid (HZ2.out he)
                                        clear HX2 HZ2 he
                                        go_wp2
                                        go_region
                                        go_wp2
                                        go_roundw
                                        case rel => exact ⟨j + 1, by go_num, by omega, HZ3, Lib.hid ⟨TT.out.1.drew, TT.out.2.1.drew, TT.out.2.2.drew⟩⟩
                                        case measure => simp [intOf]; omega
                                    · have HZ3 := Lib.hid (HZ.out (GF.out (eqL_yes (R1.out.symm.trans R2.out) (fun i s t hs ht => hJ.out i s t (by have := (List.getElem?_eq_some_iff.1 hs).1; have := R1.out; omega) hs ht))))
                                      clear hJ HX HZ GF
                                      obtain ⟨r2, rfl⟩ : ∃ n : Nat, n = j := ⟨_, rfl⟩
                                      obtain rfl : r2 = r1 := by omega
                                      go_wp2
                                      go_roundw
                                      case rel => exact ⟨k + 1, by go_num, by omega, HZ3, Lib.hid TT.out.1⟩
                                      case measure => simp [intOf]; omega
                                · have HE := Lib.hid (HX.out (prodEq_no (eqL_len hrl)))
                                  have z5 : ((x.right.length : Int) != (y.right.length : Int)) = true := by simp; omega
                                  clear HX HZ hrl
                                  go_wp2
                                  go_ret
                                  exact ⟨by rw [HE.out]; rfl, TT.out.1.bl⟩
                  · have S2 := Lib.hid (fun (i : Nat) (x y : ProdM) hx hy => hS.out i x y (by have := (List.getElem?_eq_some_iff.1 hx).1; have := N2.out; omega) hx hy)
                    obtain rfl : k = n2 := by omega
                    clear hS hk hlt
                    go_wp2
                    obtain ⟨n2, rfl⟩ : ∃ n : Nat, n = k := ⟨_, rfl⟩
                    obtain ⟨wo2, rfl⟩ : ∃ wo : World, wo = wr := ⟨_, rfl⟩
                    go_loopw [10] (fun i wr => ∃ k : Nat, i = .int .i64 k ∧ k ≤ n3 ∧ Hid (∀ (i : Nat) (x y : ForM), i < k → a.forbid[i]? = some x → b.forbid[i]? = some y → forEq x y = true)
                        ∧ Hid (Two w wr #[.slice a.sa n1 a.sc, .slice a.pa n2 a.pc, .int .i64 a.start, .slice a.fa n3 a.fc, .slice a.wa n4 a.wc] #[.slice b.sa n1 b.sc, .slice b.pa n2 b.pc, .int .i64 b.start, .slice b.fa n3 b.fc, .slice b.wa n4 b.wc]))
                      (fun i _ => n3 - (intOf i).toNat)
                    case atStart => exact ⟨0, rfl, Nat.zero_le _, Lib.hid (fun j x y hj => by omega), T⟩
                    case round =>
                      clear T c0 c1 c2 c3 c4 d0 d1 d2 d3 d4 t0 t1
                      obtain ⟨k, rfl, hk, hS, T⟩ := hrel
                      obtain ⟨c0, c1, c2, c3, c4⟩ := cells5' T.out.b0
                      obtain ⟨d0, d1, d2, d3, d4⟩ := cells5' T.out.b1
                      have t0 := T.out.b0.lt
                      have t1 := T.out.b1.lt
                      by_cases hlt : k < n3
                      · obtain ⟨x, hx⟩ : ∃ x, a.forbid[k]? = some x := ⟨_, List.getElem?_eq_getElem (by rw [← N3.out]; exact hlt)⟩
                        obtain ⟨y, hy⟩ : ∃ y, b.forbid[k]? = some y := ⟨_, List.getElem?_eq_getElem (by rw [← M3.out]; exact hlt)⟩
                        obtain ⟨b1, o1, e1, hb1, hc1, i1⟩ := HA.out.forbid k x hx
                        obtain ⟨b2, o2, e2, hb2, hc2, i2⟩ := HAB.out.forbid k y hy
                        have HX : Hid (forEq x y = false → q = false) := Lib.hid (HQ.out.e3 k x y hx hy)
                        have HZ : Hid (forEq x y = true → ∀ (i : Nat) (x y : ForM), i < k + 1 → a.forbid[i]? = some x → b.forbid[i]? = some y → forEq x y = true) := Lib.hid (fun h i x' y' hi hx' hy' => by
                          by_cases e : i = k
                          · subst e; rw [hx] at hx'; rw [hy] at hy'; cases hx'; cases hy'; exact h
                          · exact hS.out i x' y' (by omega) hx' hy')
                        have z1 : (k : Int) < (n3 : Int) := by omega
                        have z0 : (0 : Int) ≤ (k : Int) := by omega
                        have hb1' := Nat.lt_of_lt_of_le hb1 T.out.bl.size
                        have hb2' := Nat.lt_of_lt_of_le hb2 T.out.bl.size
                        obtain ⟨x10, x11, x12⟩ := For_at (hc1.below T.out.bl hb1)
                        obtain ⟨x20, x21, x22⟩ := For_at (hc2.below T.out.bl hb2)
                        clear hx hy hc1 hc2 hS HQ HA HAB i1 i2
                        rw [e1] at c3
                        rw [e2] at d3
                        clear e1 e2
                        cases he : forEq x y
                        · have hee : (x.parent == y.parent && (x.at_ == y.at_ && x.child == y.child)) = false := he
                          have g1 := fun w' => eq_fors 9996 x y w'
                          simp only [hee] at g1
                          clear hee
                          unfold forV forC at g1
                          have HE := Lib.hid (HX.out he)
                          clear HX HZ he
                          go_wp2
                          go_region
                          go_wp2
                          go_ret
                          exact ⟨by rw [HE.out]; rfl, T.out.bl.drew⟩
                        · have hee : (x.parent == y.parent && (x.at_ == y.at_ && x.child == y.child)) = true := he
                          have g1 := fun w' => eq_fors 9996 x y w'
                          simp only [hee] at g1
                          clear hee
                          unfold forV forC at g1
                          have HZ2 := Lib.hid (HZ.out he)
                          clear HX HZ he
                          go_wp2
                          go_region
                          go_wp2
                          go_roundw
                          case rel => exact ⟨k + 1, by go_num, by omega, HZ2, Lib.hid T.out.drew⟩
                          case measure => simp [intOf]; omega
                      · have S3 := Lib.hid (fun (i : Nat) (x y : ForM) hx hy => hS.out i x y (by have := (List.getElem?_eq_some_iff.1 hx).1; have := N3.out; omega) hx hy)
                        obtain rfl : k = n3 := by omega
                        clear hS hk hlt
                        go_wp2
                        obtain ⟨n3, rfl⟩ : ∃ n : Nat, n = k := ⟨_, rfl⟩
                        obtain ⟨wo3, rfl⟩ : ∃ wo : World, wo = wr := ⟨_, rfl⟩
                        go_loopw [11] (fun i wr => ∃ k : Nat, i = .int .i64 k ∧ k ≤ n4 ∧ Hid (∀ (i : Nat) (x y : FolM), i < k → a.follow[i]? = some x → b.follow[i]? = some y → folEq x y = true)
                            ∧ Hid (Two w wr #[.slice a.sa n1 a.sc, .slice a.pa n2 a.pc, .int .i64 a.start, .slice a.fa n3 a.fc, .slice a.wa n4 a.wc] #[.slice b.sa n1 b.sc, .slice b.pa n2 b.pc, .int .i64 b.start, .slice b.fa n3 b.fc, .slice b.wa n4 b.wc]))
                          (fun i _ => n4 - (intOf i).toNat)
                        case atStart => exact ⟨0, rfl, Nat.zero_le _, Lib.hid (fun j x y hj => by omega), T⟩
                        case round =>
                          clear T c0 c1 c2 c3 c4 d0 d1 d2 d3 d4 t0 t1
                          obtain ⟨k, rfl, hk, hS, T⟩ := hrel
                          obtain ⟨c0, c1, c2, c3, c4⟩ := cells5' T.out.b0
                          obtain ⟨d0, d1, d2, d3, d4⟩ := cells5' T.out.b1
                          have t0 := T.out.b0.lt
                          have t1 := T.out.b1.lt
                          by_cases hlt : k < n4
                          · obtain ⟨x, hx⟩ : ∃ x, a.follow[k]? = some x := ⟨_, List.getElem?_eq_getElem (by rw [← N4.out]; exact hlt)⟩
                            obtain ⟨y, hy⟩ : ∃ y, b.follow[k]? = some y := ⟨_, List.getElem?_eq_getElem (by rw [← M4.out]; exact hlt)⟩
                            obtain ⟨b1, o1, e1, hb1, hc1, i1⟩ := HA.out.follow k x hx
                            obtain ⟨b2, o2, e2, hb2, hc2, i2⟩ := HAB.out.follow k y hy
                            have HX : Hid (folEq x y = false → q = false) := Lib.hid (HQ.out.e4 k x y hx hy)
                            have HZ : Hid (folEq x y = true → ∀ (i : Nat) (x y : FolM), i < k + 1 → a.follow[i]? = some x → b.follow[i]? = some y → folEq x y = true) := Lib.hid (fun h i x' y' hi hx' hy' => by
                              by_cases e : i = k
                              · subst e; rw [hx] at hx'; rw [hy] at hy'; cases hx'; cases hy'; exact h
                              · exact hS.out i x' y' (by omega) hx' hy')
                            have z1 : (k : Int) < (n4 : Int) := by omega
                            have z0 : (0 : Int) ≤ (k : Int) := by omega
                            have hb1' := Nat.lt_of_lt_of_le hb1 T.out.bl.size
                            have hb2' := Nat.lt_of_lt_of_le hb2 T.out.bl.size
                            obtain ⟨x10, x11, x12, x13, x14⟩ := Fol_at (hc1.below T.out.bl hb1)
                            obtain ⟨x20, x21, x22, x23, x24⟩ := Fol_at (hc2.below T.out.bl hb2)
                            clear hx hy hc1 hc2 hS HQ HA HAB i1 i2
                            rw [e1] at c4
                            rw [e2] at d4
                            clear e1 e2
                            cases he : folEq x y
                            · have g1 := fun w' => eq_fols 9996 x y w'
                              simp only [he] at g1
                              unfold folV folC at g1
                              have HE := Lib.hid (HX.out he)
                              clear HX HZ he
                              go_wp2
                              go_region
                              go_wp2
                              go_ret
                              exact ⟨by rw [HE.out]; rfl, T.out.bl.drew⟩
                            · have g1 := fun w' => eq_fols 9996 x y w'
                              simp only [he] at g1
                              unfold folV folC at g1
                              have HZ2 := Lib.hid (HZ.out he)
                              clear HX HZ he
                              go_wp2
                              go_region
                              go_wp2
                              go_roundw
                              case rel => exact ⟨k + 1, by go_num, by omega, HZ2, Lib.hid T.out.drew⟩
                              case measure => simp [intOf]; omega
                          · have S4 := Lib.hid (fun (i : Nat) (x y : FolM) hx hy => hS.out i x y (by have := (List.getElem?_eq_some_iff.1 hx).1; have := N4.out; omega) hx hy)
                            obtain rfl : k = n4 := by omega
                            clear hS hk hlt
                            go_wp2
                            obtain ⟨n4, rfl⟩ : ∃ n : Nat, n = k := ⟨_, rfl⟩
                            have HE := Lib.hid (HQ.out.yes E0.out (N1.out.symm.trans M1.out) (N2.out.symm.trans M2.out) (N3.out.symm.trans M3.out) (N4.out.symm.trans M4.out) S1.out S2.out S3.out S4.out)
                            clear HQ HA HAB F3 S1 S2 S3 S4 N1 N2 N3 N4 M1 M2 M3 M4
                            go_wp2
                            go_ret
                            exact ⟨by rw [HE.out]; rfl, T.out.bl⟩
          · have HE := Lib.hid (HQ.out.l4 (by rw [← N4.out, ← M4.out]; exact e4))
            have g4 : ((n4 : Int) != (m4 : Int)) = true := by simp; omega
            clear HQ HA HAB T0
            go_enter Try.func18, Try.ntmps18
            go_wp2
            go_ret
            exact ⟨by rw [HE.out]; rfl, HB0.out⟩
        · have HE := Lib.hid (HQ.out.l3 (by rw [← N3.out, ← M3.out]; exact e3))
          have g3 : ((n3 : Int) != (m3 : Int)) = true := by simp; omega
          clear HQ HA HAB T0
          go_enter Try.func18, Try.ntmps18
          go_wp2
          go_ret
          exact ⟨by rw [HE.out]; rfl, HB0.out⟩
      · have HE := Lib.hid (HQ.out.l2 (by rw [← N2.out, ← M2.out]; exact e2))
        have g2 : ((n2 : Int) != (m2 : Int)) = true := by simp; omega
        clear HQ HA HAB T0
        go_enter Try.func18, Try.ntmps18
        go_wp2
        go_ret
        exact ⟨by rw [HE.out]; rfl, HB0.out⟩
    · have HE := Lib.hid (HQ.out.l1 (by rw [← N1.out, ← M1.out]; exact e1))
      have g1 : ((n1 : Int) != (m1 : Int)) = true := by simp; omega
      clear HQ HA HAB T0
      go_enter Try.func18, Try.ntmps18
      go_wp2
      go_ret
      exact ⟨by rw [HE.out]; rfl, HB0.out⟩
  · have HE := Lib.hid (HQ.out.st e0)
    have g0 : (a.start != b.start) = true := by simpa using e0
    clear HQ HA HAB T0 e0
    go_enter Try.func18, Try.ntmps18
    go_wp2
    go_ret
    exact ⟨by rw [HE.out]; rfl, HB0.out⟩
end Go.Proofs.Ytiihdbchchnncaa
end
section
namespace Go.Proofs.Ytiihdbchchnncaa
open Go Go.RowKit Go.Maps Go.WideMaps

theorem zero3 (w : World) : (zeroValue 3).run Try.prog w = .ok (.int .i64 0) w := by kernel_rfl

set_option maxRecDepth 100000 in
set_option maxHeartbeats 1000000 in
theorem find_call (g : GramM) (name : ByteArray) (hm : name.size ≤ 1048576) (w : World) (hg : GIn w g) (hf : Fit g) :
    Calls Try.prog 16 #[gramV g, .string name] w fun e w' => e = .returned (.tuple #[.int .i64 (((findN name g.sorts).getD 0 : Nat) : Int), .bool (findN name g.sorts).isSome]) ∧ Below w.heap.size w w' := by
  have hB1 : Below w.heap.size w (w.alloc (.cells (gramC g) 27)) := (Below.refl _ _).alloc (Nat.le_refl _) _
  have HN := Lib.hid (byName_any g.sa g.sc g.sorts hf.sorts hf.names _ (hg.sorts.belowN hB1))
  have HK := Lib.hid (keyOf_string_mk Try.underlying9 (s := name) (by unfold maxLen; omega))
  have Hat := Lib.hid (nm_at g.sorts hf.names name (.lit (.int .i64 0)) 0)
  have Hhas := Lib.hid ((nm_has g.sorts hf.names name 0).trans (find_any name g.sorts))
  have HB := Lib.hid hB1
  clear hg hf hB1 hm
  generalize findN name g.sorts = r at *
  unfold gramV gramC at *
  generalize nm 0 g.sorts = D at *
  go_enter Try.func16, Try.ntmps16
  go_wp2_with fail
  refine HN.out.mono ?_
  rintro e w3 ⟨rfl, hown, hB3⟩
  have HB3 := Lib.hid (HB.out.trans (hB3.mono HB.out.size))
  clear hB3
  rw [World.size_alloc] at hown
  go_wp2_with (first
    | (at_lookup; refine wpList_lookup_own_ok_int _ rfl _ _ 89 rfl 9 3 .i64 key9 Try.underlying89 Try.underlying3 (zero3 _) _ _ D rfl hown _ _ rfl HK.out ?_; intro c hat hwc)
    | go_in)
  have hc : c = ((r.getD 0 : Nat) : Int) := by
    rw [Hat.out] at hat
    cases r with
    | none => simp at hat; simpa using hat.symm
    | some i => simp at hat; simpa using hat.symm
  have hh := Hhas.out
  rw [hh]
  subst hc
  go_wp2
  go_ret2
  exact ⟨rfl, HB3.out⟩
end Go.Proofs.Ytiihdbchchnncaa
end
section
namespace Go.Proofs.Ytiihdbchchnncaa
open Go Go.RowKit

theorem conditions_any (w : World) : Calls Try.prog 40 #[] w fun e w' => e = .returned (.slice (some ⟨w.heap.size, 0, none⟩) 5 5) ∧ w' = w.alloc (.cells #[.func (.func 59) #[] #[], .func (.func 60) #[] #[], .func (.func 61) #[] #[], .func (.func 62) #[] #[], .func (.func 63) #[] #[]] 28) := by
  go_enter Try.func40, Try.ntmps40
  go_wp2
  go_ret
  exact ⟨rfl, rfl⟩

/-- The five conditions, from the i-th on. -/
def condB (g : GramM) : Nat → Bool
  | 0 => sortsB' g
  | 1 => startB g
  | 2 => prodsB g
  | 3 => forbidsB g
  | _ => followsB g
/-- May a grammar be? -/
def checkB (g : GramM) : Bool := sortsB' g && (startB g && (prodsB g && (forbidsB g && followsB g)))
def errI (b : Bool) : Int := if b then 0 else 160

theorem cond_any (g : GramM) (hf : FitG g) (i : Nat) (hi : i < 5) (w : World) (hg : GIn w g) : Calls Try.prog (59 + i) #[gramV g] w fun e w' => e = .returned (.bool (condB g i)) ∧ Below w.heap.size w w' := by
  have h : i = 0 ∨ i = 1 ∨ i = 2 ∨ i = 3 ∨ i = 4 := by omega
  rcases h with rfl | rfl | rfl | rfl | rfl
  · exact sortsMay_any g w hg hf.fit
  · exact startMay_any g w
  · exact prodsMay_any g w hg hf.fit
  · exact forbidsMay_any g w hg hf
  · exact followsMay_any g w hg hf

set_option maxRecDepth 100000 in
set_option maxHeartbeats 2000000 in
theorem check_any (g : GramM) (w : World) (hg : GIn w g) (hf : FitG g) : Calls Try.prog 15 #[gramV g] w fun e w' => e = .returned (.int .i64 (errI (checkB g))) ∧ Below w.heap.size w w' := by
  have HC := Lib.hid (fun i hi W (hW : Below w.heap.size w W) => cond_any g hf i hi W (hg.below hW))
  have HB0 : Hid (Below w.heap.size w ((w.alloc (.cells (gramC g) 27)).alloc (.cells #[.func (.func 59) #[] #[], .func (.func 60) #[] #[], .func (.func 61) #[] #[], .func (.func 62) #[] #[], .func (.func 63) #[] #[]] 28))) := Lib.hid (((Below.refl _ _).alloc (Nat.le_refl _) _).alloc (by simp) _)
  have HK0 : Hid (Blk ((w.alloc (.cells (gramC g) 27)).alloc (.cells #[.func (.func 59) #[] #[], .func (.func 60) #[] #[], .func (.func 61) #[] #[], .func (.func 62) #[] #[], .func (.func 63) #[] #[]] 28)) w.heap.size 27 (gramC g)) := Lib.hid ((Blk.new w 27 (gramC g)).alloc _)
  have HF0 : Hid (Blk ((w.alloc (.cells (gramC g) 27)).alloc (.cells #[.func (.func 59) #[] #[], .func (.func 60) #[] #[], .func (.func 61) #[] #[], .func (.func 62) #[] #[], .func (.func 63) #[] #[]] 28)) (w.heap.size + 1) 28 #[.func (.func 59) #[] #[], .func (.func 60) #[] #[], .func (.func 61) #[] #[], .func (.func 62) #[] #[], .func (.func 63) #[] #[]]) := Lib.hid (by
    have h := Blk.new (w.alloc (.cells (gramC g) 27)) 28 #[.func (.func 59) #[] #[], .func (.func 60) #[] #[], .func (.func 61) #[] #[], .func (.func 62) #[] #[], .func (.func 63) #[] #[]]
    rw [World.size_alloc] at h
    exact h)
  have HR : Hid (checkB g = (condB g 0 && (condB g 1 && (condB g 2 && (condB g 3 && condB g 4))))) := Lib.hid rfl
  clear hg hf
  unfold gramV at *
  generalize checkB g = q at *
  unfold gramC at *
  go_enter Try.func15, Try.ntmps15
  go_wp2_with (go_at_call 40; refine (conditions_any _).mono ?_; rintro e w' ⟨rfl, rfl⟩)
  go_loopw [7] (fun i wr => ∃ (k : Nat), i = .int .i64 k ∧ k ≤ 5 ∧ Hid (∀ j, j < k → condB g j = true)
      ∧ Hid (Blk wr w.heap.size 27 #[.slice g.sa g.sorts.length g.sc, .slice g.pa g.prods.length g.pc, .int .i64 g.start, .slice g.fa g.forbid.length g.fc, .slice g.wa g.follow.length g.wc])
      ∧ Hid (Blk wr (w.heap.size + 1) 28 #[.func (.func 59) #[] #[], .func (.func 60) #[] #[], .func (.func 61) #[] #[], .func (.func 62) #[] #[], .func (.func 63) #[] #[]]) ∧ Hid (Below w.heap.size w wr))
    (fun i _ => 5 - (intOf i).toNat)
  case atStart => exact ⟨0, rfl, Nat.zero_le _, Lib.hid (fun j hj => by omega), HK0, HF0, HB0⟩
  case round =>
    clear HB0 HK0 HF0
    obtain ⟨k, rfl, hk, hA, hK, hF, hB⟩ := hrel
    have hlK := hK.out.lt
    have hlF := hF.out.lt
    have g0 := hK.out.cell 0
    have g1 := hK.out.cell 1
    have g2 := hK.out.cell 2
    have g3 := hK.out.cell 3
    have g4 := hK.out.cell 4
    simp only [List.getElem?_toArray, List.getElem?_cons_zero, List.getElem?_cons_succ] at g0 g1 g2 g3 g4
    have hcase : k = 0 ∨ k = 1 ∨ k = 2 ∨ k = 3 ∨ k = 4 ∨ k = 5 := by omega
    have key : ∀ r, condB g k = r → (r = false → k < 5 → Hid (q = false)) ∧ (r = true → Hid (∀ j, j < k + 1 → condB g j = true)) := fun r hr => ⟨fun h h5 => Lib.hid (by
        rw [HR.out]
        have h0 : k = 0 ∨ k = 1 ∨ k = 2 ∨ k = 3 ∨ k = 4 := by omega
        rcases h0 with rfl | rfl | rfl | rfl | rfl <;> simp [hr, h]), fun h => Lib.hid (fun j hj => by
        by_cases e : j = k
        · subst e; rw [hr, h]
        · exact hA.out j (by omega))⟩
    have hcN : ∀ (i : Nat), i < 5 → ∀ r, r = condB g i → Hid (Calls Try.prog (59 + i) #[.agg #[.slice g.sa g.sorts.length g.sc, .slice g.pa g.prods.length g.pc, .int .i64 g.start, .slice g.fa g.forbid.length g.fc, .slice g.wa g.follow.length g.wc]] wr fun e w' => e = .returned (.bool r) ∧ Below wr.heap.size wr w') := fun i hi r hr => Lib.hid (by rw [hr]; exact HC.out i hi wr hB.out)
    rcases hcase with rfl | rfl | rfl | rfl | rfl | rfl
    · obtain ⟨r, hr⟩ : ∃ r, r = condB g 0 := ⟨_, rfl⟩
      obtain ⟨kf, kt⟩ := key r hr.symm
      have HCk : Hid (Calls Try.prog 59 #[.agg #[.slice g.sa g.sorts.length g.sc, .slice g.pa g.prods.length g.pc, .int .i64 g.start, .slice g.fa g.forbid.length g.fc, .slice g.wa g.follow.length g.wc]] wr fun e w' => e = .returned (.bool r) ∧ Below wr.heap.size wr w') := hcN 0 (by omega) r hr
      have f0 := hF.out.cell 0
      simp only [List.getElem?_toArray, List.getElem?_cons_zero, List.getElem?_cons_succ] at f0
      clear key hcN hr hA
      cases r with
      | true =>
        have hA2 := kt rfl
        clear kf kt
        go_wp2_with fail
        with_reducible refine HCk.out.mono ?_
        rintro e w3 ⟨rfl, hB3⟩
        have hK3 := Lib.hid (hK.out.below hB3 hK.out.lt)
        have hF3 := Lib.hid (hF.out.below hB3 hF.out.lt)
        have HB3 := Lib.hid (hB.out.trans (hB3.mono hB.out.size))
        clear hB3 g0 g1 g2 g3 g4 f0 hK hF hB
        go_wp2
        go_roundw
        case rel => exact ⟨1, by go_num, by omega, hA2, hK3, hF3, HB3⟩
        case measure => simp [intOf]
      | false =>
        have HR2 := kf rfl (by omega)
        clear kf kt
        go_wp2_with fail
        with_reducible refine HCk.out.mono ?_
        rintro e w3 ⟨rfl, hB3⟩
        have HB3 := Lib.hid (hB.out.trans (hB3.mono hB.out.size))
        clear hB3 g0 g1 g2 g3 g4 f0 hK hF hB
        go_wp2
        go_ret
        exact ⟨by rw [HR2.out]; try rfl, HB3.out⟩
    · obtain ⟨r, hr⟩ : ∃ r, r = condB g 1 := ⟨_, rfl⟩
      obtain ⟨kf, kt⟩ := key r hr.symm
      have HCk : Hid (Calls Try.prog 60 #[.agg #[.slice g.sa g.sorts.length g.sc, .slice g.pa g.prods.length g.pc, .int .i64 g.start, .slice g.fa g.forbid.length g.fc, .slice g.wa g.follow.length g.wc]] wr fun e w' => e = .returned (.bool r) ∧ Below wr.heap.size wr w') := hcN 1 (by omega) r hr
      have f0 := hF.out.cell 1
      simp only [List.getElem?_toArray, List.getElem?_cons_zero, List.getElem?_cons_succ] at f0
      clear key hcN hr hA
      cases r with
      | true =>
        have hA2 := kt rfl
        clear kf kt
        go_wp2_with fail
        with_reducible refine HCk.out.mono ?_
        rintro e w3 ⟨rfl, hB3⟩
        have hK3 := Lib.hid (hK.out.below hB3 hK.out.lt)
        have hF3 := Lib.hid (hF.out.below hB3 hF.out.lt)
        have HB3 := Lib.hid (hB.out.trans (hB3.mono hB.out.size))
        clear hB3 g0 g1 g2 g3 g4 f0 hK hF hB
        go_wp2
        go_roundw
        case rel => exact ⟨2, by go_num, by omega, hA2, hK3, hF3, HB3⟩
        case measure => simp [intOf]
      | false =>
        have HR2 := kf rfl (by omega)
        clear kf kt
        go_wp2_with fail
        with_reducible refine HCk.out.mono ?_
        rintro e w3 ⟨rfl, hB3⟩
        have HB3 := Lib.hid (hB.out.trans (hB3.mono hB.out.size))
        clear hB3 g0 g1 g2 g3 g4 f0 hK hF hB
        go_wp2
        go_ret
        exact ⟨by rw [HR2.out]; try rfl, HB3.out⟩
    · obtain ⟨r, hr⟩ : ∃ r, r = condB g 2 := ⟨_, rfl⟩
      obtain ⟨kf, kt⟩ := key r hr.symm
      have HCk : Hid (Calls Try.prog 61 #[.agg #[.slice g.sa g.sorts.length g.sc, .slice g.pa g.prods.length g.pc, .int .i64 g.start, .slice g.fa g.forbid.length g.fc, .slice g.wa g.follow.length g.wc]] wr fun e w' => e = .returned (.bool r) ∧ Below wr.heap.size wr w') := hcN 2 (by omega) r hr
      have f0 := hF.out.cell 2
      simp only [List.getElem?_toArray, List.getElem?_cons_zero, List.getElem?_cons_succ] at f0
      clear key hcN hr hA
      cases r with
      | true =>
        have hA2 := kt rfl
        clear kf kt
        go_wp2_with fail
        with_reducible refine HCk.out.mono ?_
        rintro e w3 ⟨rfl, hB3⟩
        have hK3 := Lib.hid (hK.out.below hB3 hK.out.lt)
        have hF3 := Lib.hid (hF.out.below hB3 hF.out.lt)
        have HB3 := Lib.hid (hB.out.trans (hB3.mono hB.out.size))
        clear hB3 g0 g1 g2 g3 g4 f0 hK hF hB
        go_wp2
        go_roundw
        case rel => exact ⟨3, by go_num, by omega, hA2, hK3, hF3, HB3⟩
        case measure => simp [intOf]
      | false =>
        have HR2 := kf rfl (by omega)
        clear kf kt
        go_wp2_with fail
        with_reducible refine HCk.out.mono ?_
        rintro e w3 ⟨rfl, hB3⟩
        have HB3 := Lib.hid (hB.out.trans (hB3.mono hB.out.size))
        clear hB3 g0 g1 g2 g3 g4 f0 hK hF hB
        go_wp2
        go_ret
        exact ⟨by rw [HR2.out]; try rfl, HB3.out⟩
    · obtain ⟨r, hr⟩ : ∃ r, r = condB g 3 := ⟨_, rfl⟩
      obtain ⟨kf, kt⟩ := key r hr.symm
      have HCk : Hid (Calls Try.prog 62 #[.agg #[.slice g.sa g.sorts.length g.sc, .slice g.pa g.prods.length g.pc, .int .i64 g.start, .slice g.fa g.forbid.length g.fc, .slice g.wa g.follow.length g.wc]] wr fun e w' => e = .returned (.bool r) ∧ Below wr.heap.size wr w') := hcN 3 (by omega) r hr
      have f0 := hF.out.cell 3
      simp only [List.getElem?_toArray, List.getElem?_cons_zero, List.getElem?_cons_succ] at f0
      clear key hcN hr hA
      cases r with
      | true =>
        have hA2 := kt rfl
        clear kf kt
        go_wp2_with fail
        with_reducible refine HCk.out.mono ?_
        rintro e w3 ⟨rfl, hB3⟩
        have hK3 := Lib.hid (hK.out.below hB3 hK.out.lt)
        have hF3 := Lib.hid (hF.out.below hB3 hF.out.lt)
        have HB3 := Lib.hid (hB.out.trans (hB3.mono hB.out.size))
        clear hB3 g0 g1 g2 g3 g4 f0 hK hF hB
        go_wp2
        go_roundw
        case rel => exact ⟨4, by go_num, by omega, hA2, hK3, hF3, HB3⟩
        case measure => simp [intOf]
      | false =>
        have HR2 := kf rfl (by omega)
        clear kf kt
        go_wp2_with fail
        with_reducible refine HCk.out.mono ?_
        rintro e w3 ⟨rfl, hB3⟩
        have HB3 := Lib.hid (hB.out.trans (hB3.mono hB.out.size))
        clear hB3 g0 g1 g2 g3 g4 f0 hK hF hB
        go_wp2
        go_ret
        exact ⟨by rw [HR2.out]; try rfl, HB3.out⟩
    · obtain ⟨r, hr⟩ : ∃ r, r = condB g 4 := ⟨_, rfl⟩
      obtain ⟨kf, kt⟩ := key r hr.symm
      have HCk : Hid (Calls Try.prog 63 #[.agg #[.slice g.sa g.sorts.length g.sc, .slice g.pa g.prods.length g.pc, .int .i64 g.start, .slice g.fa g.forbid.length g.fc, .slice g.wa g.follow.length g.wc]] wr fun e w' => e = .returned (.bool r) ∧ Below wr.heap.size wr w') := hcN 4 (by omega) r hr
      have f0 := hF.out.cell 4
      simp only [List.getElem?_toArray, List.getElem?_cons_zero, List.getElem?_cons_succ] at f0
      clear key hcN hr hA
      cases r with
      | true =>
        have hA2 := kt rfl
        clear kf kt
        go_wp2_with fail
        with_reducible refine HCk.out.mono ?_
        rintro e w3 ⟨rfl, hB3⟩
        have hK3 := Lib.hid (hK.out.below hB3 hK.out.lt)
        have hF3 := Lib.hid (hF.out.below hB3 hF.out.lt)
        have HB3 := Lib.hid (hB.out.trans (hB3.mono hB.out.size))
        clear hB3 g0 g1 g2 g3 g4 f0 hK hF hB
        go_wp2
        go_roundw
        case rel => exact ⟨5, by go_num, by omega, hA2, hK3, hF3, HB3⟩
        case measure => simp [intOf]
      | false =>
        have HR2 := kf rfl (by omega)
        clear kf kt
        go_wp2_with fail
        with_reducible refine HCk.out.mono ?_
        rintro e w3 ⟨rfl, hB3⟩
        have HB3 := Lib.hid (hB.out.trans (hB3.mono hB.out.size))
        clear hB3 g0 g1 g2 g3 g4 f0 hK hF hB
        go_wp2
        go_ret
        exact ⟨by rw [HR2.out]; try rfl, HB3.out⟩
    · have HR2 : Hid (q = true) := Lib.hid (by rw [HR.out, hA.out 0 (by omega), hA.out 1 (by omega), hA.out 2 (by omega), hA.out 3 (by omega), hA.out 4 (by omega)]; rfl)
      clear key hA hcN
      go_wp2
      go_ret
      exact ⟨by rw [HR2.out]; try rfl, hB.out⟩
end Go.Proofs.Ytiihdbchchnncaa
end
section
namespace Go.Proofs.Ytiihdbchchnncaa
open Go Go.RowKit

/-- What a grammar that may be is. -/
structure MayB (g : GramM) : Prop where
  sorts1 : 1 ≤ g.sorts.length
  sorts2 : g.sorts.length ≤ 1000
  prods : g.prods.length ≤ 1000
  left : ∀ x, x ∈ g.prods → ∃ k : Nat, x.left = k ∧ k < g.sorts.length
  right : ∀ x, x ∈ g.prods → x.right.length ≤ 30
  kind : ∀ x, x ∈ g.prods → ∀ s, s ∈ x.right → s.kind = 0 ∨ s.kind = 1
  sym : ∀ x, x ∈ g.prods → ∀ s, s ∈ x.right → s.kind = 1 → ∃ k : Nat, s.sort = k ∧ k < g.sorts.length
  start : ∃ k : Nat, g.start = k ∧ k < g.sorts.length
  forb : ∀ f, f ∈ g.forbid → (∃ k : Nat, f.parent = k ∧ k < g.prods.length) ∧ (∃ k : Nat, f.child = k ∧ k < g.prods.length)
  fol : ∀ f, f ∈ g.follow → ∃ k : Nat, f.sort = k ∧ k < g.sorts.length
theorem mayB_of {g : GramM} (h : checkB g = true) : MayB g := by
  unfold checkB sortsB' startB prodsB forbidsB followsB at h
  simp only [Bool.and_eq_true, decide_eq_true_eq, List.all_eq_true] at h
  obtain ⟨⟨h1, h2, h3, h4⟩, h5, ⟨h6, h7⟩, ⟨h8, h9⟩, h10, h11⟩ := h
  have hp : ∀ x, x ∈ g.prods → numB x.left g.sorts.length = true ∧ x.right.length ≤ 30 ∧ ∀ s, s ∈ x.right → symB g.sorts.length s = true := fun x hx => by
    have := h7 x hx
    unfold prodB at this
    simp only [Bool.and_eq_true, decide_eq_true_eq, List.all_eq_true] at this
    exact ⟨this.1, this.2.1, this.2.2.1⟩
  refine ⟨h1, h2, h6, fun x hx => numB_nat (hp x hx).1, fun x hx => (hp x hx).2.1, fun x hx s hs => ?_, fun x hx s hs hk => ?_, numB_nat h5, fun f hf => ?_, fun f hf => ?_⟩
  · have := (hp x hx).2.2 s hs
    unfold symB at this
    by_cases e : s.kind = 0
    · exact .inl e
    · rw [if_neg e] at this
      by_cases e1 : s.kind = 1
      · exact .inr e1
      · rw [if_neg e1] at this; cases this
  · have := (hp x hx).2.2 s hs
    unfold symB at this
    rw [if_neg (by rw [hk]; decide), if_pos hk, Bool.and_eq_true] at this
    exact numB_nat this.2
  · have := h9 f hf
    unfold forbidB at this
    simp only [Bool.and_eq_true] at this
    exact ⟨numB_nat this.1, numB_nat this.2.1⟩
  · have := h10 f hf
    unfold folB at this
    simp only [Bool.and_eq_true] at this
    exact numB_nat this.1

/-- A sort is productive. -/
inductive PV (g : GramM) : Nat → Prop
  | mk (x : ProdM) (hx : x ∈ g.prods) (hr : x.role ≠ 11) (h : ∀ s, s ∈ x.right → s.kind = 1 → PV g s.sort.toNat) : PV g x.left.toNat

/-- What a list of bools says of a number. -/
def lv (L : List Bool) (i : Int) : Bool := L.getD i.toNat false
def okP (L : List Bool) (x : ProdM) : Bool := !(x.role == 11) && sortsB (lv L) x
def Sound (g : GramM) (L : List Bool) : Prop := ∀ k : Nat, L[k]? = some true → PV g k
def Closed (g : GramM) (L : List Bool) : Prop := ∀ x, x ∈ g.prods → okP L x = true → lv L x.left = true
theorem lv_true {L : List Bool} {i : Int} (h : lv L i = true) : L[i.toNat]? = some true := by
  unfold lv at h
  rw [List.getD_eq_getElem?_getD] at h
  cases e : L[i.toNat]? with
  | none => rw [e] at h; cases h
  | some b => rw [e] at h; simp at h; rw [h]
theorem lv_some {L : List Bool} {i : Int} (h : L[i.toNat]? = some true) : lv L i = true := by
  unfold lv
  rw [List.getD_eq_getElem?_getD, h]; rfl
theorem okP_pv {g : GramM} {L : List Bool} (hS : Sound g L) {x : ProdM} (hx : x ∈ g.prods) (h : okP L x = true) : PV g x.left.toNat := by
  unfold okP sortsB at h
  rw [Bool.and_eq_true, List.all_eq_true] at h
  refine PV.mk x hx (fun e => by rw [e] at h; simp at h) (fun s hs hk => ?_)
  have := h.2 s hs
  unfold sortB at this
  rw [hk] at this
  simp at this
  exact hS _ (lv_true this)
theorem sound_set {g : GramM} {L : List Bool} (hS : Sound g L) {x : ProdM} (hx : x ∈ g.prods) (h : okP L x = true) : Sound g (L.set x.left.toNat true) := by
  intro k hk
  rw [List.getElem?_set] at hk
  split at hk
  · next e => subst e; exact okP_pv hS hx h
  · exact hS k hk
theorem closed_pv {g : GramM} {L : List Bool} (hC : Closed g L) {k : Nat} (h : PV g k) : L[k]? = some true := by
  induction h with
  | mk x hx hr _ ih =>
    refine lv_true (hC x hx ?_)
    unfold okP sortsB
    rw [Bool.and_eq_true, List.all_eq_true]
    refine ⟨by simpa using hr, fun s hs => ?_⟩
    unfold sortB
    by_cases e : s.kind = 1
    · rw [lv_some (ih s hs e)]; simp
    · have : (s.kind == 1) = false := by simpa using e
      rw [this]; rfl
/-- The list tells which sorts are productive. -/
def Live (g : GramM) (L : List Bool) : Prop := L.length = g.sorts.length ∧ ∀ k : Nat, L[k]? = some true ↔ PV g k
theorem live_of {g : GramM} {L : List Bool} (hl : L.length = g.sorts.length) (hS : Sound g L) (hC : Closed g L) : Live g L := ⟨hl, fun k => ⟨hS k, closed_pv hC⟩⟩
theorem Live.unique {g : GramM} {L L' : List Bool} (h : Live g L) (h' : Live g L') : L = L' := by
  apply List.ext_getElem?
  intro k
  by_cases hk : k < g.sorts.length
  · have e1 : L[k]? = some (L[k]'(by rw [h.1]; exact hk)) := List.getElem?_eq_getElem _
    have e2 : L'[k]? = some (L'[k]'(by rw [h'.1]; exact hk)) := List.getElem?_eq_getElem _
    rw [e1, e2]
    have a := h.2 k
    have b := h'.2 k
    rw [e1] at a
    rw [e2] at b
    simp only [Option.some.injEq] at a b ⊢
    rw [Bool.eq_iff_iff]
    exact a.trans b.symm
  · rw [List.getElem?_eq_none (by rw [h.1]; omega), List.getElem?_eq_none (by rw [h'.1]; omega)]

/-- The cells of bools. -/
def bools (L : List Bool) : Array Value := (L.map Value.bool).toArray
theorem bools_at (L : List Bool) (i : Nat) (h : i < L.length) : (bools L)[i]? = some (.bool (lv L i)) := by
  unfold bools lv
  simp [List.getElem?_eq_getElem h, List.getD_eq_getElem?_getD]
theorem bools_set (L : List Bool) (i : Nat) : (bools L).setIfInBounds i (.bool true) = bools (L.set i true) := by
  unfold bools
  rw [List.setIfInBounds_toArray, List.map_set]
theorem bools_made (n : Nat) : madeCells #[.bool false] n = bools (List.replicate n false) := by
  unfold bools madeCells
  apply Array.ext'
  simp [Nat.mod_one, List.map_const']
theorem count_set {L : List Bool} {i : Nat} (h : L[i]? = some false) : (L.set i true).count false < L.count false := by
  induction L generalizing i with
  | nil => simp at h
  | cons b r ih =>
    cases i with
    | zero => simp at h; subst h; simp
    | succ i => simp at h; simp only [List.set_cons_succ, List.count_cons]; have := ih h; omega
theorem Blk.row {w : World} {B : Nat} {L : List Bool} (h : Blk w B 4 (bools L)) : RowBool w (some ⟨B, 0, none⟩) L := fun i x hx => by
  refine ⟨B, 0, rfl, h.lt, fun j v hj => ?_, trivial⟩
  have hj0 : j = 0 := by
    have := (Array.getElem?_eq_some_iff.1 hj).1
    simp [boolC] at this; exact this
  subst hj0
  simp [boolC] at hj
  subst hj
  have hil := (List.getElem?_eq_some_iff.1 hx).1
  rw [Nat.mul_one, Nat.zero_add, Nat.add_zero, h.cell i, bools_at L i hil]
  unfold lv
  rw [List.getD_eq_getElem?_getD]
  simp [hx]
end Go.Proofs.Ytiihdbchchnncaa
end
section
namespace Go.Proofs.Ytiihdbchchnncaa
open Go Go.RowKit

theorem Try.info4 : (Try.prog.info? 4).map (fun i => (i.zero, i.size, i.bytes)) = some (some (.bool false), 1, 1) := by kernel_rfl
theorem make_bools (n : Nat) (hn : n ≤ 1000) (w : World) : (Instr.makeSlice 82 (.int .i64 (n : Int)) (.int .i64 (n : Int))).run Try.prog w = .ok (.slice (some ⟨w.heap.size, 0, none⟩) n n) (w.alloc (.cells (bools (List.replicate n false)) 4)) := by
  obtain ⟨i0, hi, hz0, hz1, hz2⟩ := info_parts Try.info4
  rw [← bools_made]
  exact run_make_row 82 4 i0 (.bool false) Try.underlying82 hi hz0 hz1 rfl .i64 .i64 n (by rw [hz2]; omega) (by omega) w

set_option maxRecDepth 100000 in
set_option maxHeartbeats 400000 in
/-- productive's closure. -/
theorem f55_any (L : List Bool) (B Q : Nat) (j : Nat) (hj : j < L.length) (hL : L.length ≤ 1000) (w : World) (hb : Blk w B 82 #[.slice (some ⟨Q, 0, none⟩) L.length L.length]) (hq : Blk w Q 4 (bools L)) :
    Calls Try.prog 55 #[.int .i64 j, .pointer (some ⟨B, 0, none⟩)] w fun e w' => e = .returned (.bool (lv L j)) ∧ Below w.heap.size w w' := by
  have c0 := hb.cell 0
  simp only [List.getElem?_toArray, List.getElem?_cons_zero] at c0
  have c1 := (hq.cell j).trans (bools_at L j hj)
  have hB := hb.lt
  have hQ := hq.lt
  generalize lv L (j : Int) = r at *
  generalize L.length = n at *
  have h0 : (j : Int) < (n : Int) := by omega
  clear hb hq
  go_enter Try.func55, Try.ntmps55
  go_wp2
  go_ret
  exact ⟨rfl, Below.refl _ _⟩
set_option maxRecDepth 100000 in
set_option maxHeartbeats 400000 in
/-- reached's inner closure. -/
theorem f57_any (L : List Bool) (B : Nat) (a : Option Addr) (c : Nat) (j : Nat) (hj : j < L.length) (hL : L.length ≤ 1000) (w : World) (hb : Blk w B 82 #[.slice a L.length c]) (hq : RowBool w a L) :
    Calls Try.prog 57 #[.int .i64 j, .pointer (some ⟨B, 0, none⟩)] w fun e w' => e = .returned (.bool (lv L j)) ∧ Below w.heap.size w w' := by
  have c0 := hb.cell 0
  simp only [List.getElem?_toArray, List.getElem?_cons_zero] at c0
  obtain ⟨b, off, rfl, hbw, hc, ht⟩ := hq j _ (List.getElem?_eq_getElem hj)
  clear ht
  have c1 := Bool_at hc
  have e : lv L (j : Int) = L[j] := by unfold lv; simp [List.getD_eq_getElem?_getD, hj]
  rw [← e, Nat.mul_one] at c1
  have hB := hb.lt
  have h0 : (j : Int) < (L.length : Int) := by omega
  clear hb hq hc e hL
  generalize lv L (j : Int) = r at *
  clear hj
  generalize L.length = n at *
  go_enter Try.func57, Try.ntmps57
  go_wp2
  go_ret
  exact ⟨rfl, Below.refl _ _⟩

/-- What productive's blocks hold. -/
structure PI (g : GramM) (w wr : World) (L : List Bool) : Prop where
  b0 : Blk wr w.heap.size 27 (gramC g)
  b1 : Blk wr (w.heap.size + 1) 4 (bools L)
  b2 : Blk wr (w.heap.size + 1 + 1) 82 #[.slice (some ⟨w.heap.size + 1, 0, none⟩) g.sorts.length g.sorts.length]
  b : Below w.heap.size w wr
  len : L.length = g.sorts.length
theorem PI.below {g : GramM} {w wr W : World} {L : List Bool} (h : PI g w wr L) (hB : Below wr.heap.size wr W) : PI g w W L :=
  ⟨h.b0.below hB h.b0.lt, h.b1.below hB h.b1.lt, h.b2.below hB h.b2.lt, h.b.trans (hB.mono h.b.size), h.len⟩
theorem PI.set {g : GramM} {w wr : World} {L : List Bool} (h : PI g w wr L) (k : Nat) : PI g w (wr.setCell ⟨w.heap.size + 1, k, none⟩ (.bool true)) (L.set k true) :=
  ⟨h.b0.other (by show w.heap.size ≠ w.heap.size + 1; omega) _, by rw [← bools_set]; exact h.b1.set k _, h.b2.other (by show w.heap.size + 1 + 1 ≠ w.heap.size + 1; omega) _,
    h.b.setCell (p := ⟨w.heap.size + 1, k, none⟩) (by show w.heap.size ≤ w.heap.size + 1; omega) _, by rw [List.length_set]; exact h.len⟩

set_option maxRecDepth 100000 in
set_option maxHeartbeats 2000000 in
theorem productive_any (g : GramM) (hm : MayB g) (hf : Fit g) (w : World) (hg : GIn w g) :
    Calls Try.prog 35 #[gramV g] w fun e w' => ∃ L, Live g L ∧ e = .returned (.slice (some ⟨w.heap.size + 1, 0, none⟩) L.length L.length) ∧ Blk w' (w.heap.size + 1) 4 (bools L) ∧ Below w.heap.size w w' := by
  have hG := Lib.hid hg
  have hmk := fun w' => make_bools g.sorts.length hm.sorts2 w'
  have HM := Lib.hid hm
  have hn1 := hm.prods
  have HP0 : Hid (PI g w (((w.alloc (.cells (gramC g) 27)).alloc (.cells (bools (List.replicate g.sorts.length false)) 4)).alloc (.cells #[.slice (some ⟨w.heap.size + 1, 0, none⟩) g.sorts.length g.sorts.length] 82)) (List.replicate g.sorts.length false)) := Lib.hid (by
    have hb1 := Blk.new w 27 (gramC g)
    have hb2 := Blk.new (w.alloc (.cells (gramC g) 27)) 4 (bools (List.replicate g.sorts.length false))
    have hb3 := Blk.new ((w.alloc (.cells (gramC g) 27)).alloc (.cells (bools (List.replicate g.sorts.length false)) 4)) 82 #[.slice (some ⟨w.heap.size + 1, 0, none⟩) g.sorts.length g.sorts.length]
    simp only [World.size_alloc] at hb2 hb3
    exact ⟨(hb1.alloc _).alloc _, hb2.alloc _, hb3, (((Below.refl _ w).alloc (Nat.le_refl _) _).alloc (by simp) _).alloc (by simp; omega) _, by simp⟩)
  have HS0 : Hid (Sound g (List.replicate g.sorts.length false)) := Lib.hid (fun k hk => by
    rw [List.getElem?_replicate] at hk
    split at hk <;> simp at hk)
  clear hg hm hf
  unfold gramV
  unfold gramC at HP0 ⊢
  obtain ⟨pa, hpa⟩ : ∃ p, p = g.pa := ⟨_, rfl⟩
  have HRow := Lib.hid hG.out.prods
  rw [← hpa] at HP0 HRow ⊢
  have HPA := Lib.hid hpa
  clear hpa
  go_enter Try.func35, Try.ntmps35
  go_wp2
  go_step3
  go_wp2
  go_step3
  go_wp2
  clear hmk
  go_loopg [13] g.sorts.length (fun m _ wr => ∃ L, Hid (PI g w wr L) ∧ Hid (Sound g L) ∧ Hid (L.count false ≤ m))
  case atStart => exact ⟨_, HP0, HS0, Lib.hid (Nat.le_trans List.count_le_length (by simp))⟩
  case round =>
    clear HP0 HS0
    obtain ⟨L, hI, hS, hC⟩ := hrel
    have g1 := hI.out.b0.gram.2.1
    rw [← HPA.out] at g1
    have hl0 := hI.out.b0.lt
    go_wp2
    obtain ⟨wo, rfl⟩ : ∃ wo : World, wo = wr := ⟨_, rfl⟩
    obtain ⟨m0, rfl⟩ : ∃ m0 : Nat, m0 = gk := ⟨_, rfl⟩
    go_loopw [13] (fun i wr => ∃ k : Nat, i = .int .i64 k ∧ k ≤ g.prods.length ∧ Hid (PI g w wr L) ∧ Hid (∀ x, x ∈ g.prods.take k → okP L x = true → lv L x.left = true))
      (fun i _ => g.prods.length - (intOf i).toNat)
    case atStart => exact ⟨0, rfl, Nat.zero_le _, hI, Lib.hid (fun x h => by simp at h)⟩
    case round =>
      clear g1 hl0 hI
      obtain ⟨k, rfl, hk, hI, hD⟩ := hrel
      have hb0 := hI.out.b0.lt
      by_cases hlt : k < g.prods.length
      · obtain ⟨x, hx⟩ : ∃ x, g.prods[k]? = some x := ⟨_, List.getElem?_eq_getElem hlt⟩
        have HX := Lib.hid (List.mem_of_getElem? hx)
        have HT := Lib.hid (take_snoc g.prods k x hx)
        obtain ⟨b, off, rfl, hbw, hc, hpi⟩ := HRow.out k x hx
        have hc := hc.below hI.out.b hbw
        have hpi := hpi.below hI.out.b
        have hbr := Nat.lt_of_lt_of_le hbw hI.out.b.size
        obtain ⟨c0, c1, c2, c3, c4, c5, c6⟩ := Prod_at hc
        have n1 : (k : Int) < (g.prods.length : Int) := by omega
        obtain ⟨j, hj, hjn⟩ := HM.out.left x HX.out
        have hjl : j < L.length := by rw [hI.out.len]; exact hjn
        have HBx : Hid (Below wr.heap.size wr (wr.alloc (.cells (prodC x) 46))) := Lib.hid ((Below.refl _ _).alloc (Nat.le_refl _) _)
        have HI1 := Lib.hid (hI.out.below HBx.out)
        have d0 := (HI1.out.b1.cell j).trans (bools_at L j hjl)
        have HD0 : Hid (∀ W, Blk W (w.heap.size + 1) 4 (bools L) → W.cell? ⟨w.heap.size + 1, j, none⟩ = some (.bool (lv L j))) := Lib.hid (fun W h => (h.cell j).trans (bools_at L j hjl))
        have d2 := HI1.out.b2.cell 0
        simp only [List.getElem?_toArray, List.getElem?_cons_zero] at d2
        have l1 := HI1.out.b1.lt
        have l2 := HI1.out.b2.lt
        have hjn2 : (j : Int) < (g.sorts.length : Int) := by omega
        have HE := Lib.hid (eachSort_any x (lv L) 55 #[.pointer (some ⟨w.heap.size + 1 + 1, 0, none⟩)] (fun _ _ => by kernel_rfl) _ (hpi.below HBx.out) (by have := HM.out.right x HX.out; omega) (fun s hs hk W hW => by
          obtain ⟨t, ht, htn⟩ := HM.out.sym x HX.out s hs hk
          rw [ht]
          have hIW := HI1.out.below hW
          have hb2 := hIW.b2
          rw [← hIW.len] at hb2
          exact f55_any L _ _ t (by rw [hIW.len]; exact htn) (by rw [hIW.len]; exact HM.out.sorts2) W hb2 hIW.b1))
        have HD2 : Hid (∀ r1 r2 r3, r1 = lv L j → r2 = (x.role == 11) → r3 = sortsB (lv L) x → (r1 = true ∨ r2 = true ∨ r3 = false) → ∀ y, y ∈ g.prods.take (k + 1) → okP L y = true → lv L y.left = true) := Lib.hid (by
          rintro r1 r2 r3 h1 h2 h3 h y hy hok
          rw [HT.out] at hy
          rcases List.mem_append.1 hy with hy | hy
          · exact hD.out y hy hok
          · simp at hy
            subst hy
            rw [hj, ← h1]
            unfold okP at hok
            rw [← h2, ← h3] at hok
            rcases h with h | h | h
            · exact h
            · rw [h] at hok; cases hok
            · rw [h] at hok; simp at hok)
        have HS2 : Hid (lv L j = false → (x.role == 11) = false → sortsB (lv L) x = true → Sound g (L.set j true) ∧ (L.set j true).count false < L.count false) := Lib.hid (fun h1 h2 h3 => by
          have := sound_set hS.out HX.out (by unfold okP; rw [h2, h3]; rfl)
          rw [hj, Int.toNat_natCast] at this
          refine ⟨this, count_set ?_⟩
          have e : L[j]? = some (L[j]) := List.getElem?_eq_getElem hjl
          rw [e]
          unfold lv at h1
          rw [List.getD_eq_getElem?_getD, Int.toNat_natCast, e] at h1
          simpa using h1)
        clear hc hpi hbw hD hjn hjl HX HT hx
        obtain ⟨left, ra, rc, right, cons, role, prefer, avoid, frm⟩ := x
        unfold prodV prodC at *
        dsimp only at *
        subst hj
        generalize lv L (j : Int) = r1 at *
        cases r1 with
        | true =>
          have HD3 := Lib.hid (HD2.out true _ _ rfl rfl rfl (.inl rfl))
          clear HD2 HS2 HE
          go_wp2
          go_roundw
          case rel => exact ⟨k + 1, by go_num, by omega, HI1, HD3⟩
          case measure => simp [intOf]; omega
        | false =>
          by_cases hr : role = 11
          · subst hr
            have HD3 := Lib.hid (HD2.out false true _ rfl rfl rfl (.inr (.inl rfl)))
            clear HD2 HS2 HE
            go_wp2
            go_roundw
            case rel => exact ⟨k + 1, by go_num, by omega, HI1, HD3⟩
            case measure => simp [intOf]; omega
          · have e2 : (role == 11) = false := by simpa using hr
            have e3 : (role != 11) = true := by simpa using hr
            generalize sortsB (lv L) _ = r3 at *
            cases r3 with
            | false =>
              have HD3 := Lib.hid (HD2.out false false false rfl e2.symm rfl (.inr (.inr rfl)))
              clear HD2 HS2 e2 hr
              go_wp2_with fail
              with_reducible refine HE.out.mono ?_
              rintro e w3 ⟨rfl, hB3⟩
              have HI3 := Lib.hid (HI1.out.below hB3)
              clear hB3 d0 d2 c0 c1 c2 c3 c4 c5 c6
              go_wp2
              go_roundw
              case rel => exact ⟨k + 1, by go_num, by omega, HI3, HD3⟩
              case measure => simp [intOf]; omega
            | true =>
              have HS3 := Lib.hid (HS2.out rfl e2 rfl)
              clear HD2 HS2 e2 hr
              go_wp2_with fail
              with_reducible refine HE.out.mono ?_
              rintro e w3 ⟨rfl, hB3⟩
              have HI3 := Lib.hid (HI1.out.below hB3)
              have hbx := (Blk.new wr 46 #[.int .i64 (j : Int), .slice ra right.length rc, .string cons, .int .i64 role, .bool prefer, .bool avoid, .int .i64 frm]).below hB3 (by simp)
              have x0 := hbx.cell 0
              simp only [List.getElem?_toArray, List.getElem?_cons_zero] at x0
              have d2 := HI3.out.b2.cell 0
              simp only [List.getElem?_toArray, List.getElem?_cons_zero] at d2
              have l1 := HI3.out.b1.lt
              have l2 := HI3.out.b2.lt
              have l3 := hbx.lt
              have hfr := HI3.out.b1.frozen j
              have d3 := HD0.out _ HI3.out.b1
              have HI4 := Lib.hid (HI3.out.set j)
              have HC4 : Hid ((L.set j true).count false ≤ m0 - 1 ∧ 0 < m0) := Lib.hid (by have := HS3.out.2; have := hC.out; omega)
              have HS4 := Lib.hid HS3.out.1
              clear hB3 d0 c0 c1 c2 c3 c4 c5 c6 hbx HS3 HI3 hI HI1 hS hC
              go_wp2
              go_roundg (m0 - 1)
              case rel => exact ⟨_, HI4, HS4, Lib.hid HC4.out.1⟩
              case measure => have := HC4.out.2; omega
      · obtain rfl : k = g.prods.length := by omega
        have hD2 := hD.out
        rw [List.take_length] at hD2
        have HLv : Hid (Live g L) := Lib.hid (live_of hI.out.len hS.out hD2)
        have d2 := hI.out.b2.cell 0
        simp only [List.getElem?_toArray, List.getElem?_cons_zero] at d2
        have l2 := hI.out.b2.lt
        have HFin : Hid (∃ L, Live g L ∧ Ending.returned (Value.slice (some ⟨w.heap.size + 1, 0, none⟩) g.sorts.length g.sorts.length) = .returned (.slice (some ⟨w.heap.size + 1, 0, none⟩) L.length L.length) ∧ Blk wr (w.heap.size + 1) 4 (bools L) ∧ Below w.heap.size w wr) :=
          Lib.hid ⟨L, HLv.out, by rw [hI.out.len], hI.out.b1, hI.out.b⟩
        clear hD hD2 hI hS hC HLv
        go_wp2
        rw [Exit.noGoto_ret]
        go_ret
        exact HFin.out
end Go.Proofs.Ytiihdbchchnncaa
end
section
namespace Go.Proofs.Ytiihdbchchnncaa
open Go Go.RowKit

/-- From a sort to one in a production of it all of whose sorts are live. -/
def Edge (g : GramM) (L : List Bool) (k t : Nat) : Prop := ∃ x, x ∈ g.prods ∧ x.left = k ∧ sortsB (lv L) x = true ∧ ∃ s, s ∈ x.right ∧ s.kind = 1 ∧ s.sort = t
inductive RF (g : GramM) (L : List Bool) (j : Nat) : Nat → Prop
  | refl : RF g L j j
  | step {k t : Nat} : RF g L j k → Edge g L k t → RF g L j t
theorem RF.trans {g : GramM} {L : List Bool} {a b c : Nat} (h : RF g L a b) (k : RF g L b c) : RF g L a c := by
  induction k with
  | refl => exact h
  | step _ e ih => exact ih.step e

/-- On the way: what has been marked since M1, from j on. -/
structure Mid (g : GramM) (L : List Bool) (j : Nat) (M1 M : List Bool) : Prop where
  len : M.length = M1.length
  le : ∀ k : Nat, M1[k]? = some true → M[k]? = some true
  closed : ∀ k t : Nat, M[k]? = some true → M1[k]? ≠ some true → Edge g L k t → M[t]? = some true
  sound : ∀ k : Nat, M[k]? = some true → M1[k]? = some true ∨ RF g L j k
def Grew (g : GramM) (L : List Bool) (j : Nat) (M1 M : List Bool) : Prop := Mid g L j M1 M ∧ M[j]? = some true
theorem Mid.refl (g : GramM) (L : List Bool) (j : Nat) (M : List Bool) : Mid g L j M M := ⟨rfl, fun _ h => h, fun _ _ h h2 => absurd h h2, fun _ h => .inl h⟩
theorem Mid.call {g : GramM} {L : List Bool} {j t : Nat} {M1 M M' : List Bool} (h : Mid g L j M1 M) (he : Edge g L j t) (hg : Grew g L t M M') : Mid g L j M1 M' := by
  obtain ⟨h2, _⟩ := hg
  refine ⟨h2.len.trans h.len, fun k hk => h2.le k (h.le k hk), fun k u hk hn e => ?_, fun k hk => ?_⟩
  · by_cases c : M[k]? = some true
    · exact h2.le u (h.closed k u c hn e)
    · exact h2.closed k u hk c e
  · rcases h2.sound k hk with c | c
    · exact h.sound k c
    · exact .inr ((RF.refl.step he).trans c)
/-- Productions of j that have been gone over. -/
def Done (g : GramM) (L : List Bool) (j : Nat) (l : List ProdM) (M : List Bool) : Prop := ∀ x, x ∈ l → x.left = j → sortsB (lv L) x = true → ∀ s, s ∈ x.right → s.kind = 1 → M[s.sort.toNat]? = some true
theorem grew_of {g : GramM} {L : List Bool} {j : Nat} {M M' : List Bool} (hj : j < M.length) (h : Mid g L j (M.set j true) M') (hd : Done g L j g.prods M') : Grew g L j M M' := by
  have hset : (M.set j true)[j]? = some true := by simp [hj]
  refine ⟨⟨by rw [h.len, List.length_set], fun k hk => h.le k ?_, fun k t hk hn e => ?_, fun k hk => ?_⟩, h.le j hset⟩
  · rw [List.getElem?_set]
    split
    · next e => subst e; simp [hj]
    · exact hk
  · by_cases c : k = j
    · subst c
      obtain ⟨x, hx, hl, hs, s, hsx, hk1, hst⟩ := e
      have := hd x hx hl hs s hsx hk1
      rw [hst, Int.toNat_natCast] at this
      exact this
    · refine h.closed k t hk (fun h2 => hn ?_) e
      rw [List.getElem?_set_ne (fun h => c h.symm)] at h2
      exact h2
  · rcases h.sound k hk with c | c
    · by_cases e : k = j
      · subst e; exact .inr RF.refl
      · rw [List.getElem?_set_ne (fun h => e h.symm)] at c
        exact .inl c
    · exact .inr c
theorem grew_self {g : GramM} {L : List Bool} {j : Nat} {M : List Bool} (h : M[j]? = some true) : Grew g L j M M := ⟨Mid.refl _ _ _ _, h⟩
theorem count_le : ∀ {M M' : List Bool}, M'.length = M.length → (∀ k : Nat, M[k]? = some true → M'[k]? = some true) → M'.count false ≤ M.count false := by
  intro M
  induction M with
  | nil => intro M' h _; cases M' with | nil => exact Nat.le_refl _ | cons _ _ => simp at h
  | cons b r ih =>
    intro M' h hk
    cases M' with
    | nil => simp at h
    | cons c s =>
      have := ih (M' := s) (by simpa using h) (fun k hh => by simpa using hk (k + 1) (by simpa using hh))
      simp only [List.count_cons]
      cases b with
      | false => cases c <;> simp <;> omega
      | true =>
        have := hk 0 rfl
        simp at this
        subst this
        simpa using ih (M' := s) (by simpa using h) (fun k hh => by simpa using hk (k + 1) (by simpa using hh))

/-- What the visit's blocks hold: w0: the world when the call began. -/
structure VI (g : GramM) (L : List Bool) (w0 : World) (aL : Option Addr) (cL Bg Bl Q Bm Bv : Nat) (M : List Bool) (w : World) : Prop where
  b : Below w0.heap.size w0 w
  bg : Blk w Bg 27 (gramC g)
  bl : Blk w Bl 82 #[.slice aL L.length cL]
  bm : Blk w Bm 82 #[.slice (some ⟨Q, 0, none⟩) g.sorts.length g.sorts.length]
  bv : Blk w Bv 105 #[.func (.func 56) #[] #[.pointer (some ⟨Bm, 0, none⟩), .pointer (some ⟨Bg, 0, none⟩), .pointer (some ⟨Bl, 0, none⟩), .pointer (some ⟨Bv, 0, none⟩)]]
  q : Blk w Q 4 (bools M)
  len : M.length = g.sorts.length
structure VK (w0 : World) (Bg Bl Q Bm Bv : Nat) : Prop where
  q : w0.heap.size ≤ Q
  g : Bg ≠ Q
  l : Bl ≠ Q
  m : Bm ≠ Q
  v : Bv ≠ Q
theorem VI.grown {g : GramM} {L : List Bool} {w0 : World} {aL : Option Addr} {cL Bg Bl Q Bm Bv : Nat} {M M' : List Bool} {w W : World} (h : VI g L w0 aL cL Bg Bl Q Bm Bv M w) (k : VK w0 Bg Bl Q Bm Bv)
    (hg : w.grownBy W (some Q)) (hq : Blk W Q 4 (bools M')) (hl : M'.length = M.length) : VI g L w0 aL cL Bg Bl Q Bm Bv M' W :=
  ⟨h.b.grown hg h.b.size (fun j hj => by cases hj; exact k.q), h.bg.kept hg (fun e => k.g (by simpa using e)), h.bl.kept hg (fun e => k.l (by simpa using e)), h.bm.kept hg (fun e => k.m (by simpa using e)), h.bv.kept hg (fun e => k.v (by simpa using e)), hq, hl.trans h.len⟩
theorem grown_of_below {w W : World} (h : Below w.heap.size w W) (r : Option Nat) : w.grownBy W r := ⟨h.os, h.tape, h.output, h.size, fun k hk _ => h.block k hk⟩
theorem VI.below {g : GramM} {L : List Bool} {w0 : World} {aL : Option Addr} {cL Bg Bl Q Bm Bv : Nat} {M : List Bool} {w W : World} (h : VI g L w0 aL cL Bg Bl Q Bm Bv M w) (k : VK w0 Bg Bl Q Bm Bv)
    (hB : Below w.heap.size w W) : VI g L w0 aL cL Bg Bl Q Bm Bv M W := h.grown k (grown_of_below hB _) (h.q.below hB h.q.lt) rfl
theorem grown_trans {A B C : World} {r : Option Nat} (h : A.grownBy B r) (k : B.grownBy C r) : A.grownBy C r := h.andThen k (fun j e => .inr e)
theorem grown_set (W : World) (Q k : Nat) (v : Value) : W.grownBy (W.setCell ⟨Q, k, none⟩ v) (some Q) :=
  ⟨rfl, rfl, rfl, by rw [World.size_setCell]; exact Nat.le_refl _, fun j hj hne => Below.heap_setCell W ⟨Q, k, none⟩ v j (fun e => hne (by show some j = some Q; rw [show j = Q from e]))⟩
end Go.Proofs.Ytiihdbchchnncaa
end
section
namespace Go.Proofs.Ytiihdbchchnncaa
open Go Go.RowKit

theorem Done.mono {g : GramM} {L : List Bool} {j : Nat} {l : List ProdM} {M M' : List Bool} (h : Done g L j l M) (hM : ∀ k : Nat, M[k]? = some true → M'[k]? = some true) : Done g L j l M' :=
  fun x hx hl hs s hsx hk => hM _ (h x hx hl hs s hsx hk)
theorem Done.snoc {g : GramM} {L : List Bool} {j : Nat} {l : List ProdM} {M : List Bool} {x : ProdM} (h : Done g L j l M) (hx : x.left = j → sortsB (lv L) x = true → ∀ s, s ∈ x.right → s.kind = 1 → M[s.sort.toNat]? = some true) : Done g L j (l ++ [x]) M := by
  intro y hy hl hs s hsx hk
  rcases List.mem_append.1 hy with hy | hy
  · exact h y hy hl hs s hsx hk
  · simp at hy; subst hy; exact hx hl hs s hsx hk
theorem lv_false {M : List Bool} {j : Nat} (hj : j < M.length) (h : lv M j = false) : M[j]? = some false := by
  have e : M[j]? = some (M[j]) := List.getElem?_eq_getElem hj
  rw [e]
  unfold lv at h
  rw [List.getD_eq_getElem?_getD, Int.toNat_natCast, e] at h
  simpa using h

set_option maxRecDepth 100000 in
set_option maxHeartbeats 2000000 in
theorem visit_any (g : GramM) (hm : MayB g) (L : List Bool) (hL : L.length = g.sorts.length) (w0 : World) (hg : GIn w0 g) (aL : Option Addr) (cL Bg Bl Q Bm Bv : Nat) (hlive : RowBool w0 aL L) (hk : VK w0 Bg Bl Q Bm Bv) :
    ∀ (n : Nat) (M : List Bool) (j : Nat) (w : World), M.count false ≤ n → j < g.sorts.length → VI g L w0 aL cL Bg Bl Q Bm Bv M w →
      Calls Try.prog 56 #[.int .i64 j, .pointer (some ⟨Bm, 0, none⟩), .pointer (some ⟨Bg, 0, none⟩), .pointer (some ⟨Bl, 0, none⟩), .pointer (some ⟨Bv, 0, none⟩)] w fun e w' =>
        e = .returned (.tuple #[]) ∧ ∃ M', VI g L w0 aL cL Bg Bl Q Bm Bv M' w' ∧ Grew g L j M M' ∧ w.grownBy w' (some Q) := by
  intro n
  induction n with
  | zero =>
    intro M j w hn hj hI
    have hjl : j < M.length := by rw [hI.len]; exact hj
    have hM : M[j]? = some true := by
      have e : M[j]? = some (M[j]) := List.getElem?_eq_getElem hjl
      cases h : M[j] with
      | true => rw [e, h]
      | false =>
        have : false ∈ M := by rw [← h]; exact List.getElem_mem _
        have := List.count_pos_iff.2 this
        omega
    have HF : Hid (∃ M', VI g L w0 aL cL Bg Bl Q Bm Bv M' w ∧ Grew g L j M M' ∧ w.grownBy w (some Q)) := Lib.hid ⟨M, hI, grew_self hM, World.grownBy.refl _ _⟩
    have c0 := hI.bm.cell 0
    simp only [List.getElem?_toArray, List.getElem?_cons_zero] at c0
    have c1 := (hI.q.cell j).trans (bools_at M j hjl)
    rw [lv_some (i := (j : Int)) (by rw [Int.toNat_natCast]; exact hM)] at c1
    have l0 := hI.bm.lt
    have l1 := hI.q.lt
    have hj2 : (j : Int) < (g.sorts.length : Int) := by omega
    clear hn hI hM hjl hlive hg hm hL hj
    generalize g.sorts.length = ns at *
    go_enter Try.func56, Try.ntmps56
    go_wp2
    first | go_end0 | refine bodyPost_ret (results_none rfl _ _ _) rfl ?_
    exact ⟨rfl, HF.out⟩
  | succ n ih =>
    intro M j w hn hj hI
    have hjl : j < M.length := by rw [hI.len]; exact hj
    have c0 := hI.bm.cell 0
    simp only [List.getElem?_toArray, List.getElem?_cons_zero] at c0
    have c1 := (hI.q.cell j).trans (bools_at M j hjl)
    have l0 := hI.bm.lt
    have l1 := hI.q.lt
    have hj2 : (j : Int) < (g.sorts.length : Int) := by omega
    cases hv : lv M j with
    | true =>
      have HF : Hid (∃ M', VI g L w0 aL cL Bg Bl Q Bm Bv M' w ∧ Grew g L j M M' ∧ w.grownBy w (some Q)) := Lib.hid ⟨M, hI, grew_self (by have := lv_true hv; rwa [Int.toNat_natCast] at this), World.grownBy.refl _ _⟩
      rw [hv] at c1
      clear hn hI hjl hlive hg hm hL hj ih hv
      generalize g.sorts.length = ns at *
      go_enter Try.func56, Try.ntmps56
      go_wp2
      first | go_end0 | refine bodyPost_ret (results_none rfl _ _ _) rfl ?_
      exact ⟨rfl, HF.out⟩
    | false =>
      rw [hv] at c1
      have hfr := hI.q.frozen j
      have HM := Lib.hid hm
      have HG := Lib.hid hg
      have HLv := Lib.hid hlive
      have HL := Lib.hid hL
      have HK := Lib.hid hk
      have hI1 : VI g L w0 aL cL Bg Bl Q Bm Bv (M.set j true) (w.setCell ⟨Q, j, none⟩ (.bool true)) :=
        hI.grown hk (grown_set w Q j _) (by rw [← bools_set]; exact hI.q.set j _) (by rw [List.length_set])
      have HI1 := Lib.hid hI1
      have HG1 : Hid (w.grownBy (w.setCell ⟨Q, j, none⟩ (.bool true)) (some Q)) := Lib.hid (grown_set w Q j _)
      have g1 := hI1.bg.gram.2.1
      have hl0 := hI1.bg.lt
      have HIH := Lib.hid ih
      have HC1 : Hid ((M.set j true).count false ≤ n) := Lib.hid (by have := count_set (lv_false hjl hv); omega)
      have HJ : Hid (j < M.length) := Lib.hid hjl
      have HJ2 := Lib.hid hj
      obtain ⟨pa, hpa⟩ : ∃ p, p = g.pa := ⟨_, rfl⟩
      have HRow := Lib.hid hg.prods
      rw [← hpa] at HRow g1
      have HPA := Lib.hid hpa
      obtain ⟨M1, hM1⟩ : ∃ M1, M1 = M.set j true := ⟨_, rfl⟩
      rw [← hM1] at HI1 HC1
      have HM1 := Lib.hid hM1
      have hnp := hm.prods
      clear hn hI hI1 hjl hlive hg hm hL hj ih hv hpa hM1 hk
      go_enter Try.func56, Try.ntmps56
      go_wp2
      go_loopw [20] (fun i wr => ∃ (k : Nat) (Mk : List Bool), i = .int .i64 k ∧ k ≤ g.prods.length ∧ Hid (VI g L w0 aL cL Bg Bl Q Bm Bv Mk wr) ∧ Hid (Mid g L j M1 Mk) ∧ Hid (Done g L j (g.prods.take k) Mk) ∧ Hid (w.grownBy wr (some Q)))
        (fun i _ => g.prods.length - (intOf i).toNat)
      case atStart => exact ⟨0, M1, rfl, Nat.zero_le _, HI1, Lib.hid (Mid.refl _ _ _ _), Lib.hid (fun x h => by simp at h), HG1⟩
      case round =>
        clear HI1 HG1 g1 hl0 c0 c1 l0 l1 hfr
        obtain ⟨k, Mk, rfl, hkl, hI, hMid, hD, hGr⟩ := hrel
        by_cases hlt : k < g.prods.length
        · obtain ⟨x, hx⟩ : ∃ x, g.prods[k]? = some x := ⟨_, List.getElem?_eq_getElem hlt⟩
          have HX := Lib.hid (List.mem_of_getElem? hx)
          have HT := Lib.hid (take_snoc g.prods k x hx)
          obtain ⟨b, off, rfl, hbw, hc, hpi⟩ := HRow.out k x hx
          have hc := hc.below hI.out.b hbw
          have HPi := Lib.hid hpi
          have hpi := hpi.below hI.out.b
          have hbr := Nat.lt_of_lt_of_le hbw hI.out.b.size
          obtain ⟨c0, c1, c2, c3, c4, c5, c6⟩ := Prod_at hc
          have n1 : (k : Int) < (g.prods.length : Int) := by omega
          have HBx : Hid (Below wr.heap.size wr (wr.alloc (.cells (prodC x) 46))) := Lib.hid ((Below.refl _ _).alloc (Nat.le_refl _) _)
          have HI1 := Lib.hid (hI.out.below HK.out HBx.out)
          have HG1 := Lib.hid (grown_trans hGr.out (grown_of_below HBx.out (some Q)))
          have l3 := hI.out.bl.lt
          have HE := Lib.hid (eachSort_any x (lv L) 57 #[.pointer (some ⟨Bl, 0, none⟩)] (fun _ _ => by kernel_rfl) _ (hpi.below HBx.out) (by have := HM.out.right x HX.out; omega) (fun s hs hk W hW => by
            obtain ⟨t, ht, htn⟩ := HM.out.sym x HX.out s hs hk
            rw [ht]
            have hIW := HI1.out.below HK.out hW
            exact f57_any L Bl aL cL t (by rw [HL.out]; exact htn) (by rw [HL.out]; exact HM.out.sorts2) W hIW.bl (HLv.out.belowN hIW.b)))
          have HDs : Hid (x.left ≠ j ∨ sortsB (lv L) x = false → Done g L j (g.prods.take (k + 1)) Mk) := Lib.hid (fun h => by
            rw [HT.out]
            refine hD.out.snoc (fun h1 h2 => ?_)
            rcases h with h | h
            · exact absurd h1 h
            · rw [h] at h2; cases h2)
          have HEd : Hid (x.left = j → sortsB (lv L) x = true → ∀ s, s ∈ x.right → s.kind = 1 → ∃ t : Nat, s.sort = t ∧ t < g.sorts.length ∧ Edge g L j t) := Lib.hid (fun h1 h2 s hs hk1 => by
            obtain ⟨t, ht, htn⟩ := HM.out.sym x HX.out s hs hk1
            exact ⟨t, ht, htn, x, HX.out, h1, h2, s, hs, hk1, ht⟩)
          have HDn : Hid (∀ M', (∀ s, s ∈ x.right → s.kind = 1 → M'[s.sort.toNat]? = some true) → Done g L j (g.prods.take k) M' → Done g L j (g.prods.take (k + 1)) M') := Lib.hid (fun M' h1 h2 => by
            rw [HT.out]
            exact h2.snoc (fun _ _ => h1))
          have hrl := HM.out.right x HX.out
          clear hc hpi hbw hx HX HT
          unfold ProdIn at HPi
          obtain ⟨left, ra, rc, right, cons, role, prefer, avoid, frm⟩ := x
          unfold prodV prodC at *
          dsimp only at *
          by_cases hlj : left = (j : Int)
          · subst hlj
            generalize sortsB (lv L) _ = r at *
            cases r with
            | false =>
              have HD2 := Lib.hid (HDs.out (.inr rfl))
              clear HDs HEd HDn HPi
              go_wp2_with fail
              with_reducible refine HE.out.mono ?_
              rintro e w3 ⟨rfl, hB3⟩
              have HI3 := Lib.hid (HI1.out.below HK.out hB3)
              have HG3 := Lib.hid (grown_trans HG1.out (grown_of_below hB3 (some Q)))
              clear hB3 c0 c1 c2 c3 c4 c5 c6
              go_wp2
              go_roundw
              case rel => exact ⟨k + 1, Mk, by go_num, by omega, HI3, hMid, HD2, HG3⟩
              case measure => simp [intOf]; omega
            | true =>
              have HEd2 := Lib.hid (HEd.out rfl rfl)
              clear HDs HEd
              go_wp2_with fail
              with_reducible refine HE.out.mono ?_
              rintro e w3 ⟨rfl, hB3⟩
              have HI3 := Lib.hid (HI1.out.below HK.out hB3)
              have HG3 := Lib.hid (grown_trans HG1.out (grown_of_below hB3 (some Q)))
              have hbx := (Blk.new wr 46 #[.int .i64 (j : Int), .slice ra right.length rc, .string cons, .int .i64 role, .bool prefer, .bool avoid, .int .i64 frm]).below hB3 (by simp)
              have x1 := hbx.cell 1
              simp only [List.getElem?_toArray, List.getElem?_cons_zero, List.getElem?_cons_succ] at x1
              have lx := hbx.lt
              clear hB3 c0 c1 c2 c3 c4 c5 c6 hbx HI1 HG1 hI hGr
              go_wp2
              obtain ⟨wo, rfl⟩ : ∃ wo : World, wo = wr := ⟨_, rfl⟩
              go_loopw [37] (fun i wr => ∃ (q : Nat) (Mi : List Bool), i = .int .i64 q ∧ q ≤ right.length ∧ Hid (VI g L w0 aL cL Bg Bl Q Bm Bv Mi wr) ∧ Hid (Mid g L j M1 Mi) ∧ Hid (∀ s, s ∈ right.take q → s.kind = 1 → Mi[s.sort.toNat]? = some true)
                  ∧ Hid (Done g L j (g.prods.take k) Mi) ∧ Hid (w.grownBy wr (some Q)))
                (fun i _ => right.length - (intOf i).toNat)
              case atStart => exact ⟨0, Mk, rfl, Nat.zero_le _, HI3, hMid, Lib.hid (fun s h => by simp at h), hD, HG3⟩
              case round =>
                clear HI3 HG3 hMid hD x1 lx hbr hlt
                obtain ⟨q, Mi, rfl, hq, hI, hMid, hS, hD, hGr⟩ := hrel
                by_cases hlt : q < right.length
                · obtain ⟨s, hs⟩ : ∃ s, right[q]? = some s := ⟨_, List.getElem?_eq_getElem hlt⟩
                  have HX := Lib.hid (List.mem_of_getElem? hs)
                  have HT := Lib.hid (take_snoc right q s hs)
                  obtain ⟨b', off', rfl, hbw, hc, ht⟩ := (RowOf.belowN HPi.out hI.out.b) q s hs
                  clear ht
                  obtain ⟨c0, c1, c2, c3, c4, c5⟩ := Sym_at hc
                  have n2 : (q : Int) < (right.length : Int) := by omega
                  have HBx : Hid (Below wr.heap.size wr (wr.alloc (.cells (symC s) 68))) := Lib.hid ((Below.refl _ _).alloc (Nat.le_refl _) _)
                  have HI1 := Lib.hid (hI.out.below HK.out HBx.out)
                  have HG1 := Lib.hid (grown_trans hGr.out (grown_of_below HBx.out (some Q)))
                  have HS1 : Hid (∀ M' : List Bool, (∀ k : Nat, Mi[k]? = some true → M'[k]? = some true) → (s.kind = 1 → M'[s.sort.toNat]? = some true) → ∀ s, s ∈ right.take (q + 1) → s.kind = 1 → M'[s.sort.toNat]? = some true) := Lib.hid (fun M' h1 h2 y hy hy1 => by
                    rw [HT.out] at hy
                    rcases List.mem_append.1 hy with hy | hy
                    · exact h1 _ (hS.out y hy hy1)
                    · simp at hy; subst hy; exact h2 hy1)
                  have HEq : Hid (s.kind = 1 → ∃ t : Nat, s.sort = t ∧ t < g.sorts.length ∧ Edge g L j t) := Lib.hid (fun h => HEd2.out s HX.out h)
                  clear hc hs HX HT hS
                  obtain ⟨sk, ss, so⟩ := s
                  unfold symC at *
                  dsimp only at *
                  by_cases h1 : sk = 1
                  · subst h1
                    obtain ⟨t, rfl, htn, hed⟩ := HEq.out rfl
                    have v0 := HI1.out.bv.cell 0
                    simp only [List.getElem?_toArray, List.getElem?_cons_zero] at v0
                    have lv0 := HI1.out.bv.lt
                    have HCall := Lib.hid (HIH.out Mi t _ (Nat.le_trans (count_le hMid.out.len hMid.out.le) HC1.out) htn HI1.out)
                    have HEt := Lib.hid hed
                    clear HEq htn hed
                    go_wp2_with fail
                    with_reducible refine HCall.out.mono ?_
                    rintro e w4 ⟨rfl, M4, hI4, hgr4, hG4⟩
                    have HI4 := Lib.hid hI4
                    have HMid4 := Lib.hid (hMid.out.call HEt.out hgr4)
                    have HS4 := Lib.hid (HS1.out M4 hgr4.1.le (fun _ => by rw [Int.toNat_natCast]; exact hgr4.2))
                    have HD4 := Lib.hid (hD.out.mono hgr4.1.le)
                    have HG4 := Lib.hid (grown_trans HG1.out hG4)
                    clear hI4 hgr4 hG4 v0 lv0 c0 c1 c2 c3 c4 c5 HCall HI1 HG1 HS1 hI hMid hD hGr
                    go_wp2
                    go_roundw
                    case rel => exact ⟨q + 1, M4, by go_num, by omega, HI4, HMid4, HS4, HD4, HG4⟩
                    case measure => simp [intOf]; omega
                  · have e1 : (sk == 1) = false := by simpa using h1
                    have HS2 := Lib.hid (HS1.out Mi (fun _ h => h) (fun h => absurd h h1))
                    clear HS1 HEq h1
                    go_wp2
                    go_roundw
                    case rel => exact ⟨q + 1, Mi, by go_num, by omega, HI1, hMid, HS2, hD, HG1⟩
                    case measure => simp [intOf]; omega
                · obtain rfl : q = right.length := by omega
                  have hS2 := hS.out
                  rw [List.take_length] at hS2
                  have HD2 := Lib.hid (HDn.out Mi hS2 hD.out)
                  clear hS hS2 hD HEd2 HDn HPi
                  go_wp2
                  go_roundw
                  case rel => exact ⟨k + 1, Mi, by go_num, by omega, hI, hMid, HD2, hGr⟩
                  case measure => simp [intOf]; omega
          · have e1 : (left == (j : Int)) = false := by simpa using hlj
            have e2 : (left != (j : Int)) = true := by simpa using hlj
            have HD2 := Lib.hid (HDs.out (.inl hlj))
            clear HDs HEd HDn HPi HE hlj e1
            go_wp2
            go_roundw
            case rel => exact ⟨k + 1, Mk, by go_num, by omega, HI1, hMid, HD2, HG1⟩
            case measure => simp [intOf]; omega
        · obtain rfl : k = g.prods.length := by omega
          have hD2 := hD.out
          rw [List.take_length] at hD2
          have hMid2 := hMid.out
          rw [HM1.out] at hMid2
          have HF : Hid (∃ M', VI g L w0 aL cL Bg Bl Q Bm Bv M' wr ∧ Grew g L j M M' ∧ w.grownBy wr (some Q)) := Lib.hid ⟨Mk, hI.out, grew_of HJ.out hMid2 hD2, hGr.out⟩
          clear hD hD2 hMid hMid2 hI hGr
          go_wp2
          first | go_end0 | refine bodyPost_ret (results_none rfl _ _ _) rfl ?_
          exact ⟨rfl, HF.out⟩
end Go.Proofs.Ytiihdbchchnncaa
end
section
namespace Go.Proofs.Ytiihdbchchnncaa
open Go Go.RowKit

/-- The list tells which sorts are reached. -/
def ReachL (g : GramM) (L R : List Bool) : Prop := R.length = g.sorts.length ∧ ∀ k : Nat, R[k]? = some true ↔ RF g L g.start.toNat k
theorem reach_of {g : GramM} {L R : List Bool} {n : Nat} (hn : n = g.sorts.length) (h : Grew g L g.start.toNat (List.replicate n false) R) : ReachL g L R := by
  have hno : ∀ k : Nat, (List.replicate n false)[k]? ≠ some true := fun k hk => by
    rw [List.getElem?_replicate] at hk
    split at hk <;> simp at hk
  refine ⟨by rw [h.1.len, List.length_replicate, hn], fun k => ⟨fun hk => (h.1.sound k hk).resolve_left (hno k), fun hk => ?_⟩⟩
  induction hk with
  | refl => exact h.2
  | step _ e ih => exact h.1.closed _ _ ih (hno _) e
theorem ReachL.unique {g : GramM} {L R R' : List Bool} (h : ReachL g L R) (h' : ReachL g L R') : R = R' := by
  apply List.ext_getElem?
  intro k
  by_cases hk : k < g.sorts.length
  · have e1 : R[k]? = some (R[k]'(by rw [h.1]; exact hk)) := List.getElem?_eq_getElem _
    have e2 : R'[k]? = some (R'[k]'(by rw [h'.1]; exact hk)) := List.getElem?_eq_getElem _
    rw [e1, e2]
    have a := h.2 k
    have b := h'.2 k
    rw [e1] at a
    rw [e2] at b
    simp only [Option.some.injEq] at a b ⊢
    rw [Bool.eq_iff_iff]
    exact a.trans b.symm
  · rw [List.getElem?_eq_none (by rw [h.1]; omega), List.getElem?_eq_none (by rw [h'.1]; omega)]

set_option maxRecDepth 100000 in
set_option maxHeartbeats 2000000 in
theorem reached_any (g : GramM) (hm : MayB g) (L : List Bool) (hL : L.length = g.sorts.length) (w : World) (hg : GIn w g) (aL : Option Addr) (cL : Nat) (hlive : RowBool w aL L) :
    Calls Try.prog 37 #[gramV g, .slice aL L.length cL] w fun e w' => ∃ R, ReachL g L R ∧ e = .returned (.slice (some ⟨w.heap.size + 1 + 1, 0, none⟩) R.length R.length) ∧ Blk w' (w.heap.size + 1 + 1) 4 (bools R) ∧ Below w.heap.size w w' := by
  have hmk := fun w' => make_bools g.sorts.length hm.sorts2 w'
  obtain ⟨st, hst, hstn⟩ := hm.start
  obtain ⟨W1, hW1⟩ : ∃ W1, W1 = (((w.alloc (.cells (gramC g) 27)).alloc (.cells #[.slice aL L.length cL] 82)).alloc (.cells (bools (List.replicate g.sorts.length false)) 4)).alloc (.cells #[.slice (some ⟨w.heap.size + 1 + 1, 0, none⟩) g.sorts.length g.sorts.length] 82) := ⟨_, rfl⟩
  obtain ⟨W2, hW2⟩ : ∃ W2, W2 = W1.alloc (.cells #[.func (.func 56) #[] #[.pointer (some ⟨w.heap.size + 1 + 1 + 1, 0, none⟩), .pointer (some ⟨w.heap.size, 0, none⟩), .pointer (some ⟨w.heap.size + 1, 0, none⟩), .pointer (some ⟨w.heap.size + 1 + 1 + 1 + 1, 0, none⟩)]] 105) := ⟨_, rfl⟩
  have hs1 : W1.heap.size = w.heap.size + 1 + 1 + 1 + 1 := by rw [hW1]; simp
  have hVK : VK w w.heap.size (w.heap.size + 1) (w.heap.size + 1 + 1) (w.heap.size + 1 + 1 + 1) (w.heap.size + 1 + 1 + 1 + 1) := ⟨by omega, by omega, by omega, by omega, by omega⟩
  have hVI : VI g L w aL cL w.heap.size (w.heap.size + 1) (w.heap.size + 1 + 1) (w.heap.size + 1 + 1 + 1) (w.heap.size + 1 + 1 + 1 + 1) (List.replicate g.sorts.length false) W2 := by
    have b1 := Blk.new w 27 (gramC g)
    have b2 := Blk.new (w.alloc (.cells (gramC g) 27)) 82 #[.slice aL L.length cL]
    have b3 := Blk.new ((w.alloc (.cells (gramC g) 27)).alloc (.cells #[.slice aL L.length cL] 82)) 4 (bools (List.replicate g.sorts.length false))
    have b4 := Blk.new (((w.alloc (.cells (gramC g) 27)).alloc (.cells #[.slice aL L.length cL] 82)).alloc (.cells (bools (List.replicate g.sorts.length false)) 4)) 82 #[.slice (some ⟨w.heap.size + 1 + 1, 0, none⟩) g.sorts.length g.sorts.length]
    have b5 := Blk.new W1 105 #[.func (.func 56) #[] #[.pointer (some ⟨w.heap.size + 1 + 1 + 1, 0, none⟩), .pointer (some ⟨w.heap.size, 0, none⟩), .pointer (some ⟨w.heap.size + 1, 0, none⟩), .pointer (some ⟨w.heap.size + 1 + 1 + 1 + 1, 0, none⟩)]]
    rw [hs1] at b5
    simp only [World.size_alloc] at b2 b3 b4
    rw [hW2]
    refine ⟨?_, ?_, ?_, ?_, b5, ?_, by simp⟩
    · exact (show Below w.heap.size w W1 by rw [hW1]; exact ((((Below.refl _ w).alloc (Nat.le_refl _) _).alloc (by simp) _).alloc (by simp; omega) _).alloc (by simp; omega) _).alloc (by rw [hs1]; omega) _
    · exact Blk.alloc (by rw [hW1]; exact ((b1.alloc _).alloc _).alloc _) _
    · exact Blk.alloc (by rw [hW1]; exact (b2.alloc _).alloc _) _
    · exact Blk.alloc (by rw [hW1]; exact b4) _
    · exact Blk.alloc (by rw [hW1]; exact b3.alloc _) _
  have HC := Lib.hid (visit_any g hm L hL w hg aL cL _ _ _ _ _ hlive hVK _ (List.replicate g.sorts.length false) st W2 (Nat.le_refl _) hstn hVI)
  have v0 := hVI.bv.cell 0
  have s0 := hVI.bg.gram.2.2.1
  rw [hst] at s0
  simp only [List.getElem?_toArray, List.getElem?_cons_zero] at v0
  have lg := hVI.bg.lt
  have lv' := hVI.bv.lt
  have HR : Hid (∀ R, Grew g L st (List.replicate g.sorts.length false) R → ReachL g L R) := Lib.hid (fun R h => reach_of rfl (by rw [hst, Int.toNat_natCast]; exact h))
  have HW2 := Lib.hid hW2
  have HW1 := Lib.hid hW1
  have HB2 := Lib.hid hVI.b
  have HLen : Hid (∀ M, VI g L w aL cL w.heap.size (w.heap.size + 1) (w.heap.size + 1 + 1) (w.heap.size + 1 + 1 + 1) (w.heap.size + 1 + 1 + 1 + 1) M = VI g L w aL cL w.heap.size (w.heap.size + 1) (w.heap.size + 1 + 1) (w.heap.size + 1 + 1 + 1) (w.heap.size + 1 + 1 + 1 + 1) M) := Lib.hid (fun _ => rfl)
  clear hW1 hW2 hVI hs1 hm hg hlive hL
  unfold gramV
  unfold gramC at HW1 ⊢
  rw [hst] at HW1 ⊢
  clear hst
  have hmf : ∀ (fn : Fn) (first cap : Array Value) (w : World), (Instr.makeFunc fn first cap).run Try.prog w = .ok (.func fn first cap) w := fun _ _ _ _ => rfl
  go_enter Try.func37, Try.ntmps37
  go_wp2_with fail
  rw [← HW1.out, ← HW2.out]
  with_reducible refine HC.out.mono ?_
  rintro e w3 ⟨rfl, M', hI3, hgr, hG3⟩
  have hR := HR.out M' hgr
  have d0 := hI3.bm.cell 0
  simp only [List.getElem?_toArray, List.getElem?_cons_zero] at d0
  have ld := hI3.bm.lt
  have HF : Hid (∃ R, ReachL g L R ∧ Ending.returned (Value.slice (some ⟨w.heap.size + 1 + 1, 0, none⟩) g.sorts.length g.sorts.length) = .returned (.slice (some ⟨w.heap.size + 1 + 1, 0, none⟩) R.length R.length) ∧ Blk w3 (w.heap.size + 1 + 1) 4 (bools R) ∧ Below w.heap.size w w3) :=
    Lib.hid ⟨M', hR, by rw [hI3.len], hI3.q, hI3.b⟩
  clear hI3 hgr hG3 hR v0 s0 lg lv'
  go_wp2
  go_ret
  exact HF.out

set_option maxRecDepth 100000 in
set_option maxHeartbeats 1000000 in
theorem indexBool_any (a : Option Addr) (c : Nat) (l : List Bool) (w : World) (hl : RowBool w a l) (hn : l.length ≤ 1048576) :
    Calls Try.prog 36 #[.slice a l.length c, .bool false] w fun e w' => e = .returned (.int .i64 (firstI (fun b => !b) l)) ∧ w = w' := by
  have HL := Lib.hid hl
  clear hl
  obtain ⟨n, hln⟩ : ∃ n, n = l.length := ⟨_, rfl⟩
  rw [← hln] at hn ⊢
  have HN := Lib.hid hln
  clear hln
  go_enter Try.func36, Try.ntmps36
  go_wp2
  go_loop [8] (fun i => ∃ (m : Nat), i = .int .i64 m ∧ m ≤ n ∧ Hid (∀ (j : Nat) y, j < m → l[j]? = some y → (!y) = false)) (fun i => n - (intOf i).toNat)
  case atStart => exact ⟨0, rfl, Nat.zero_le _, Lib.hid (fun j y hj => by omega)⟩
  case round =>
    obtain ⟨m, rfl, hm, hS⟩ := hrel
    by_cases hlt : m < n
    · obtain ⟨x, hx⟩ : ∃ x, l[m]? = some x := ⟨_, List.getElem?_eq_getElem (by rw [← HN.out]; exact hlt)⟩
      have HX := Lib.hid hx
      obtain ⟨b, off, rfl, hbw, hc, ht⟩ := HL.out m x hx
      clear ht hx
      have c0 := Bool_at hc
      rw [Nat.mul_one] at c0
      have n1 : (m : Int) < (n : Int) := by omega
      clear hc
      cases x with
      | false =>
        have HT := Lib.hid (firstI_hit (fun b => !b) l m false HX.out rfl hS.out)
        clear hS
        go_wp2
        go_ret
        exact ⟨by rw [HT.out]; try rfl, rfl⟩
      | true =>
        have HQ : Hid (∀ (j : Nat) y, j < m + 1 → l[j]? = some y → (!y) = false) := Lib.hid (fun j y hj hy => by
          by_cases e : j = m
          · subst e
            rw [HX.out] at hy
            cases hy
            rfl
          · exact hS.out j y (by omega) hy)
        clear hS
        go_wp2
        go_round
        case rel => exact ⟨m + 1, by go_num, by omega, HQ⟩
        case measure => simp [intOf]; omega
    · obtain rfl : m = n := by omega
      have HT := Lib.hid (firstI_none (fun b => !b) l (fun j y hy => hS.out j y (by have := (List.getElem?_eq_some_iff.1 hy).1; have := HN.out; omega) hy))
      clear hS
      go_wp2
      go_ret
      exact ⟨by rw [HT.out]; try rfl, rfl⟩
end Go.Proofs.Ytiihdbchchnncaa
end
