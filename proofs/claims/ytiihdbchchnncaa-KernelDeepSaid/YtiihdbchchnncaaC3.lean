import Derived.Test.YtiihdbchchnncaaC2
import Derived.Test.YtiihdbchchnncaaAProd
namespace Go.Proofs.Ytiihdbchchnncaa
open Go Go.RowKit

/-- May a production's role be? -/
def roleB (x : ProdM) : Bool := if x.role < 0 then false else if 11 < x.role then false else if x.role = 0 then decide (x.cons.size ≤ 64) else if x.role = 11 ∧ sortsB (fun _ => false) x = false then false else x.cons.toList.isEmpty

set_option maxRecDepth 100000 in
set_option maxHeartbeats 2000000 in
theorem role_any (x : ProdM) (w : World) (hx : ProdIn w x) (hn : x.right.length ≤ 1048576) : Calls Try.prog 98 #[prodV x] w fun e w' => e = .returned (.bool (roleB x)) ∧ Below w.heap.size w w' := by
  have hB1 : Below w.heap.size w (w.alloc (.cells (prodC x) 46)) := (Below.refl _ _).alloc (Nat.le_refl _) _
  have HC := Lib.hid (eachSort_any x (fun _ => false) 105 #[] (fun _ _ => by kernel_rfl) _ (hx.below hB1) hn (fun s hs hk W hW => f105_any s.sort W))
  have HB := Lib.hid hB1
  have HR : Hid (roleB x = if x.role < 0 then false else if 11 < x.role then false else if x.role = 0 then decide (x.cons.size ≤ 64) else if x.role = 11 ∧ sortsB (fun _ => false) x = false then false else x.cons.toList.isEmpty) := Lib.hid rfl
  clear hx hB1 hn
  unfold prodV at *
  generalize sortsB (fun _ => false) x = rs at *
  generalize roleB x = r at *
  obtain ⟨left, ra, rc, right, cons, role, prefer, avoid, frm⟩ := x
  unfold prodC at *
  dsimp only at *
  generalize right.length = n at *
  by_cases h0 : role < 0
  · have HR2 : Hid (r = false) := Lib.hid (by rw [HR.out, if_pos h0])
    clear HR HC
    go_enter Try.func98, Try.ntmps98
    go_wp2
    go_ret
    exact ⟨by rw [HR2.out]; try rfl, HB.out⟩
  · by_cases h1 : 11 < role
    · have HR2 : Hid (r = false) := Lib.hid (by rw [HR.out, if_neg h0, if_pos h1])
      clear HR HC
      go_enter Try.func98, Try.ntmps98
      go_wp2
      go_ret
      exact ⟨by rw [HR2.out]; try rfl, HB.out⟩
    · by_cases h2 : role = 0
      · subst h2
        by_cases h3 : cons.size ≤ 64
        · have HR2 : Hid (r = true) := Lib.hid (by rw [HR.out, if_neg h0, if_neg h1, if_pos rfl]; simpa using h3)
          clear HR HC
          have h4 : (cons.size : Int) ≤ 64 := by omega
          go_enter Try.func98, Try.ntmps98
          go_wp2
          go_ret
          exact ⟨by rw [HR2.out]; try rfl, HB.out⟩
        · have HR2 : Hid (r = false) := Lib.hid (by rw [HR.out, if_neg h0, if_neg h1, if_pos rfl]; simpa using h3)
          clear HR HC
          have h4 : ¬ (cons.size : Int) ≤ 64 := by omega
          go_enter Try.func98, Try.ntmps98
          go_wp2
          go_ret
          exact ⟨by rw [HR2.out]; try rfl, HB.out⟩
      · have k0 : (role == 0) = false := by simpa using h2
        by_cases h3 : role = 11
        · subst h3
          cases rs with
          | false =>
            have HR2 : Hid (r = false) := Lib.hid (by rw [HR.out, if_neg h0, if_neg h1, if_neg h2, if_pos ⟨rfl, rfl⟩])
            clear HR h2
            go_enter Try.func98, Try.ntmps98
            go_wp2_with fail
            refine HC.out.mono ?_
            rintro e w3 ⟨rfl, hB3⟩
            have HB3 := Lib.hid (HB.out.trans (hB3.mono HB.out.size))
            clear hB3
            go_wp2
            go_ret
            exact ⟨by rw [HR2.out]; try rfl, HB3.out⟩
          | true =>
            have HR2 : Hid (r = cons.toList.isEmpty) := Lib.hid (by rw [HR.out, if_neg h0, if_neg h1, if_neg h2, if_neg (fun h => by cases h.2)])
            clear HR h2
            go_enter Try.func98, Try.ntmps98
            go_wp2_with fail
            refine HC.out.mono ?_
            rintro e w3 ⟨rfl, hB3⟩
            have HB3 := Lib.hid (HB.out.trans (hB3.mono HB.out.size))
            have c2 : w3.cell? ⟨w.heap.size, 2, none⟩ = some (.string cons) := hB3.cell (p := ⟨w.heap.size, 2, none⟩) (by simp) |>.trans ((Blk.new w 46 _).cell 2)
            clear hB3
            go_wp2
            go_ret
            exact ⟨by rw [HR2.out]; try rfl, HB3.out⟩
        · have k1 : (role == 11) = false := by simpa using h3
          have HR2 : Hid (r = cons.toList.isEmpty) := Lib.hid (by rw [HR.out, if_neg h0, if_neg h1, if_neg h2, if_neg (fun h => h3 h.1)])
          clear HR h2 h3 HC
          go_enter Try.func98, Try.ntmps98
          go_wp2
          go_ret
          exact ⟨by rw [HR2.out]; try rfl, HB.out⟩

/-- May a production be, where there are so many sorts? -/
def prodB (n : Int) (x : ProdM) : Bool := numB x.left n && (decide (x.right.length ≤ 30) && (x.right.all (symB n) && (roleB x && (decide (-1 ≤ x.frm) && !(x.prefer && x.avoid)))))

set_option maxRecDepth 100000 in
set_option maxHeartbeats 4000000 in
theorem prodMay_any (x : ProdM) (m : Int) (w : World) (hx : ProdIn w x) (hn : x.right.length ≤ 1048576) : Calls Try.prog 80 #[prodV x, .int .i64 m] w fun e w' => e = .returned (.bool (prodB m x)) ∧ Below w.heap.size w w' := by
  have hB1 : Below w.heap.size w ((w.alloc (.cells (prodC x) 46)).alloc (.cells #[.int .i64 m] 3)) := ((Below.refl _ _).alloc (Nat.le_refl _) _).alloc (by simp) _
  have HS := Lib.hid (allSym_any x.ra x.rc x.right (symB m) 96 #[.pointer (some ⟨w.heap.size + 1, 0, none⟩)] (fun _ _ => by kernel_rfl) _ (hx.below hB1) hn (fun s hs W hW =>
    f96_any s m (w.heap.size + 1) W (by
      have hb := Blk.new (w.alloc (.cells (prodC x) 46)) 3 #[.int .i64 m]
      rw [World.size_alloc] at hb
      exact (hb.below hW hb.lt).cell 0)))
  have HR := Lib.hid (fun W (hW : Below w.heap.size w W) => role_any x W (hx.below hW) hn)
  have HN := fun w' => Lib.hid (num_any x.left m w')
  have HB := Lib.hid hB1
  have HP : Hid (prodB m x = (numB x.left m && (decide (x.right.length ≤ 30) && (x.right.all (symB m) && (roleB x && (decide (-1 ≤ x.frm) && !(x.prefer && x.avoid))))))) := Lib.hid rfl
  clear hx hB1 hn
  unfold prodV at *
  generalize x.right.all (symB m) = rs at *
  generalize roleB x = rr at *
  generalize prodB m x = r at *
  obtain ⟨left, ra, rc, right, cons, role, prefer, avoid, frm⟩ := x
  unfold prodC at *
  dsimp only at *
  generalize right.length = n at *
  generalize numB left m = rn at *
  cases rn with
  | false =>
    have HP2 : Hid (r = false) := Lib.hid (by rw [HP.out]; rfl)
    clear HP HS HR
    go_enter Try.func80, Try.ntmps80
    go_wp2_with (go_at_call 42; refine (HN _).out.mono ?_; rintro e w3 ⟨rfl, rfl⟩)
    go_ret
    exact ⟨by rw [HP2.out]; try rfl, HB.out⟩
  | true =>
    by_cases h1 : n ≤ 30
    · have h2 : decide (n ≤ 30) = true := by simpa using h1
      have hi : (n : Int) ≤ 30 := by omega
      have HP2 : Hid (r = (rs && (rr && (decide (-1 ≤ frm) && !(prefer && avoid))))) := Lib.hid (by rw [HP.out, h2, Bool.true_and, Bool.true_and])
      clear HP h2
      cases rs with
      | false =>
        have HP3 : Hid (r = false) := Lib.hid (by rw [HP2.out]; rfl)
        clear HP2 HR
        go_enter Try.func80, Try.ntmps80
        go_wp2_with (go_at_call 42; refine (HN _).out.mono ?_; rintro e w3 ⟨rfl, rfl⟩)
        refine HS.out.mono ?_
        rintro e w4 ⟨rfl, hB4⟩
        have HB4 := Lib.hid (HB.out.trans (hB4.mono HB.out.size))
        clear hB4
        go_wp2
        go_ret
        exact ⟨by rw [HP3.out]; try rfl, HB4.out⟩
      | true =>
        have hP : ∀ (w4 : World), Below ((w.alloc (.cells #[.int .i64 left, .slice ra n rc, .string cons, .int .i64 role, .bool prefer, .bool avoid, .int .i64 frm] 46)).alloc (.cells #[.int .i64 m] 3)).heap.size ((w.alloc (.cells #[.int .i64 left, .slice ra n rc, .string cons, .int .i64 role, .bool prefer, .bool avoid, .int .i64 frm] 46)).alloc (.cells #[.int .i64 m] 3)) w4 →
            Blk w4 w.heap.size 46 #[.int .i64 left, .slice ra n rc, .string cons, .int .i64 role, .bool prefer, .bool avoid, .int .i64 frm] := fun w4 h => ((Blk.new w 46 _).alloc _).below h (by simp; omega)
        have HPb := Lib.hid hP
        clear hP
        cases rr with
        | false =>
          have HP3 : Hid (r = false) := Lib.hid (by rw [HP2.out]; rfl)
          clear HP2
          go_enter Try.func80, Try.ntmps80
          go_wp2_with (go_at_call 42; refine (HN _).out.mono ?_; rintro e w3 ⟨rfl, rfl⟩)
          refine HS.out.mono ?_
          rintro e w4 ⟨rfl, hB4⟩
          have hb := HPb.out w4 hB4
          have HB4 := Lib.hid (HB.out.trans (hB4.mono HB.out.size))
          have c0 := hb.cell 0
          have c1 := hb.cell 1
          have c2 := hb.cell 2
          have c3 := hb.cell 3
          have c4 := hb.cell 4
          have c5 := hb.cell 5
          have c6 := hb.cell 6
          simp only [List.getElem?_toArray, List.getElem?_cons_zero, List.getElem?_cons_succ] at c0 c1 c2 c3 c4 c5 c6
          clear hB4 hb
          go_wp2_with (go_at_call 98; refine (HR.out _ HB4.out).mono ?_; rintro e w5 ⟨rfl, hB5⟩)
          have HB5 := Lib.hid (HB4.out.trans (hB5.mono HB4.out.size))
          clear hB5
          go_wp2
          go_ret
          exact ⟨by rw [HP3.out]; try rfl, HB5.out⟩
        | true =>
          have HP3 : Hid (r = (decide (-1 ≤ frm) && !(prefer && avoid))) := Lib.hid (by rw [HP2.out]; rfl)
          clear HP2
          go_enter Try.func80, Try.ntmps80
          go_wp2_with (go_at_call 42; refine (HN _).out.mono ?_; rintro e w3 ⟨rfl, rfl⟩)
          refine HS.out.mono ?_
          rintro e w4 ⟨rfl, hB4⟩
          have hb := HPb.out w4 hB4
          have HB4 := Lib.hid (HB.out.trans (hB4.mono HB.out.size))
          have c0 := hb.cell 0
          have c1 := hb.cell 1
          have c2 := hb.cell 2
          have c3 := hb.cell 3
          have c4 := hb.cell 4
          have c5 := hb.cell 5
          have c6 := hb.cell 6
          have hw4 := hb.lt
          simp only [List.getElem?_toArray, List.getElem?_cons_zero, List.getElem?_cons_succ] at c0 c1 c2 c3 c4 c5 c6
          clear hB4
          have HR4 := Lib.hid (HR.out _ HB4.out)
          clear HR
          have HBk := Lib.hid hb
          clear hb
          go_wp2_with fail
          refine HR4.out.mono ?_
          rintro e w5 ⟨rfl, hB5⟩
          have hb := HBk.out.below hB5 HBk.out.lt
          have d4 := hb.cell 4
          have d5 := hb.cell 5
          have d6 := hb.cell 6
          simp only [List.getElem?_toArray, List.getElem?_cons_zero, List.getElem?_cons_succ] at d4 d5 d6
          have HB5 := Lib.hid (HB4.out.trans (hB5.mono HB4.out.size))
          clear hB5 hb c0 c1 c2 c3 c4 c5 c6
          by_cases h3 : -1 ≤ frm
          · have h4 : decide (-1 ≤ frm) = true := by simpa using h3
            have HP4 : Hid (r = !(prefer && avoid)) := Lib.hid (by rw [HP3.out, h4, Bool.true_and])
            clear HP3 h4
            cases prefer with
            | false =>
              go_wp2
              go_ret
              exact ⟨by rw [HP4.out]; try rfl, HB5.out⟩
            | true =>
              cases avoid with
              | false =>
                go_wp2
                go_ret
                exact ⟨by rw [HP4.out]; try rfl, HB5.out⟩
              | true =>
                go_wp2
                go_ret
                exact ⟨by rw [HP4.out]; try rfl, HB5.out⟩
          · have h4 : decide (-1 ≤ frm) = false := by simpa using h3
            have HP4 : Hid (r = false) := Lib.hid (by rw [HP3.out, h4, Bool.false_and])
            clear HP3
            go_wp2
            go_ret
            exact ⟨by rw [HP4.out]; try rfl, HB5.out⟩
    · have h2 : decide (n ≤ 30) = false := by simpa using h1
      have HP2 : Hid (r = false) := Lib.hid (by rw [HP.out, h2]; rfl)
      have hi : ¬ (n : Int) ≤ 30 := by omega
      clear HP HS HR h1 h2
      go_enter Try.func80, Try.ntmps80
      go_wp2_with (go_at_call 42; refine (HN _).out.mono ?_; rintro e w3 ⟨rfl, rfl⟩)
      go_ret
      exact ⟨by rw [HP2.out]; try rfl, HB.out⟩
end Go.Proofs.Ytiihdbchchnncaa
