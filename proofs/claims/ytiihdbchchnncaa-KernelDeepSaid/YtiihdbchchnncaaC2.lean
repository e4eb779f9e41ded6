import Derived.Test.YtiihdbchchnncaaC1
import Derived.Test.YtiihdbchchnncaaASym
namespace Go.Proofs.Ytiihdbchchnncaa
open Go Go.RowKit

theorem eq_zero (s : BS) (w : World) : (Op.equalIn 10000 66 (.agg #[.int .u64 (wdI s 0), .int .u64 (wdI s 1), .int .u64 (wdI s 2), .int .u64 (wdI s 3)]) (.agg #[.int .u64 0, .int .u64 0, .int .u64 0, .int .u64 0])).run Try.prog w = .ok (s == 0#256) w := by
  have h := eq_sets s 0#256 w
  rw [show wdI 0#256 0 = 0 by decide, show wdI 0#256 1 = 0 by decide, show wdI 0#256 2 = 0 by decide, show wdI 0#256 3 = 0 by decide] at h
  exact h

/-- May a symbol be? -/
def symB (n : Int) (s : SymM) : Bool := if s.kind = 0 then !(s.set == 0#256) && s.sort == 0 else if s.kind = 1 then s.set == 0#256 && numB s.sort n else false

set_option maxRecDepth 100000 in
set_option maxHeartbeats 1000000 in
theorem symMay_any (s : SymM) (n : Int) (w : World) : Calls Try.prog 97 #[symV s, .int .i64 n] w fun e w' => e = .returned (.bool (symB n s)) ∧ Below w.heap.size w w' := by
  obtain ⟨k, st, so⟩ := s
  have hB : Hid (Below w.heap.size w (w.alloc (.cells (symC ⟨k, st, so⟩) 68))) := (Below.refl _ _).alloc (Nat.le_refl _) _
  have HE := fun w' => Lib.hid (eq_zero st w')
  have HN := fun w' => Lib.hid (num_any so n w')
  unfold symV symC at *
  dsimp only at *
  by_cases h0 : k = 0
  · subst h0
    obtain ⟨r1, hr1⟩ : ∃ r, r = (st == 0#256) := ⟨_, rfl⟩
    obtain ⟨r2, hr2⟩ : ∃ r, r = (so == 0) := ⟨_, rfl⟩
    have HX : Hid (symB n ⟨0, st, so⟩ = (!r1 && r2)) := Lib.hid (by unfold symB; rw [if_pos rfl, hr1, hr2])
    rw [← hr1] at HE
    clear hr1
    have HE' := fun w' => (HE w').out
    rw [HX.out]
    cases r1 with
    | true =>
      clear hr2
      go_enter Try.func97, Try.ntmps97
      go_wp2
      go_ret
      exact ⟨rfl, hB.out⟩
    | false =>
      have hr3 := hr2.symm
      clear hr2
      cases r2 with
      | true =>
        go_enter Try.func97, Try.ntmps97
        go_wp2
        go_ret
        exact ⟨rfl, hB.out⟩
      | false =>
        go_enter Try.func97, Try.ntmps97
        go_wp2
        go_ret
        exact ⟨rfl, hB.out⟩
  · have k0 : (k == 0) = false := by simpa using h0
    by_cases h1 : k = 1
    · subst h1
      obtain ⟨r1, hr1⟩ : ∃ r, r = (st == 0#256) := ⟨_, rfl⟩
      have HX : Hid (symB n ⟨1, st, so⟩ = (r1 && numB so n)) := Lib.hid (by unfold symB; rw [if_neg (show ¬ (1 : Int) = 0 by decide), if_pos rfl, hr1])
      rw [← hr1] at HE
      clear hr1 h0
      have HE' := fun w' => (HE w').out
      rw [HX.out]
      generalize numB so n = r2 at *
      cases r1 with
      | true =>
        go_enter Try.func97, Try.ntmps97
        go_wp2_with (go_at_call 42; refine (HN _).out.mono ?_; rintro e w3 ⟨rfl, rfl⟩)
        go_ret
        exact ⟨rfl, hB.out⟩
      | false =>
        go_enter Try.func97, Try.ntmps97
        go_wp2
        go_ret
        exact ⟨rfl, hB.out⟩
    · have k1 : (k == 1) = false := by simpa using h1
      have HX : Hid (symB n ⟨k, st, so⟩ = false) := Lib.hid (by unfold symB; rw [if_neg h0, if_neg h1])
      rw [HX.out]
      clear h0 h1 HE HN
      go_enter Try.func97, Try.ntmps97
      go_wp2
      go_ret
      exact ⟨rfl, hB.out⟩

set_option maxRecDepth 100000 in
set_option maxHeartbeats 1000000 in
/-- prodMayBe's closure. -/
theorem f96_any (s : SymM) (n : Int) (B : Nat) (w : World) (hb : w.cell? ⟨B, 0, none⟩ = some (.int .i64 n)) : Calls Try.prog 96 #[symV s, .pointer (some ⟨B, 0, none⟩)] w fun e w' => e = .returned (.bool (symB n s)) ∧ Below w.heap.size w w' := by
  have HN := fun w' => Lib.hid (symMay_any s n w')
  have hB := lt_of_cell hb
  have HB : Hid (Below w.heap.size w (w.alloc (.cells (symC s) 68))) := (Below.refl _ _).alloc (Nat.le_refl _) _
  unfold symV symC at *
  generalize symB n s = r at *
  go_enter Try.func96, Try.ntmps96
  go_wp2_with (go_at_call 97; refine (HN _).out.mono ?_; rintro e w3 ⟨rfl, hB3⟩)
  go_ret
  exact ⟨rfl, HB.out.trans (hB3.mono HB.out.size)⟩

/-- Is it a sort, then one of which p holds? -/
def sortB (p : Int → Bool) (s : SymM) : Bool := !(s.kind == 1) || p s.sort

set_option maxRecDepth 100000 in
set_option maxHeartbeats 1000000 in
/-- eachSort's closure. -/
theorem f75_any (s : SymM) (p : Int → Bool) (K : Nat) (lb : Array Value) (eg : ∀ args w, (callFunc K args).run Try.prog w = .ok (.enter K args) w) (B : Nat) (w : World) (hb : w.cell? ⟨B, 0, none⟩ = some (.func (.func K) #[] lb))
    (H : s.kind = 1 → ∀ W, Below w.heap.size w W → Calls Try.prog K (#[.int .i64 s.sort] ++ lb) W fun e w' => e = .returned (.bool (p s.sort)) ∧ Below W.heap.size W w') :
    Calls Try.prog 75 #[symV s, .pointer (some ⟨B, 0, none⟩)] w fun e w' => e = .returned (.bool (sortB p s)) ∧ Below w.heap.size w w' := by
  have hB := lt_of_cell hb
  have HB : Hid (Below w.heap.size w (w.alloc (.cells (symC s) 68))) := (Below.refl _ _).alloc (Nat.le_refl _) _
  obtain ⟨k, st, so⟩ := s
  unfold symV symC sortB at *
  dsimp only at *
  by_cases h1 : k = 1
  · subst h1
    have HC := Lib.hid (H rfl _ HB.out)
    clear H
    generalize p so = r at *
    go_enter Try.func75, Try.ntmps75
    go_wp2_with (refine HC.out.mono ?_)
    rintro e w3 ⟨rfl, hB3⟩
    go_wp2
    go_ret
    exact ⟨by simp, HB.out.trans (hB3.mono HB.out.size)⟩
  · have k1 : (k == 1) = false := by simpa using h1
    have k2 : (k != 1) = true := by simpa using h1
    rw [k1]
    clear h1 H
    go_enter Try.func75, Try.ntmps75
    go_wp2
    go_ret
    exact ⟨rfl, HB.out⟩

theorem f105_any (n : Int) (w : World) : Calls Try.prog 105 #[.int .i64 n] w fun e w' => e = .returned (.bool false) ∧ Below w.heap.size w w' := by
  go_enter Try.func105, Try.ntmps105
  go_wp2
  go_ret
  exact ⟨rfl, Below.refl _ _⟩

/-- Does something hold of each sort among a production's symbols? -/
def sortsB (p : Int → Bool) (x : ProdM) : Bool := x.right.all (sortB p)

set_option maxRecDepth 100000 in
set_option maxHeartbeats 1000000 in
theorem eachSort_any (x : ProdM) (p : Int → Bool) (K : Nat) (lb : Array Value) (eg : ∀ args w, (callFunc K args).run Try.prog w = .ok (.enter K args) w) (w : World) (hx : ProdIn w x) (hn : x.right.length ≤ 1048576)
    (H : ∀ s, s ∈ x.right → s.kind = 1 → ∀ W, Below w.heap.size w W → Calls Try.prog K (#[.int .i64 s.sort] ++ lb) W fun e w' => e = .returned (.bool (p s.sort)) ∧ Below W.heap.size W w') :
    Calls Try.prog 54 #[prodV x, .func (.func K) #[] lb] w fun e w' => e = .returned (.bool (sortsB p x)) ∧ Below w.heap.size w w' := by
  have hB1 : Below w.heap.size w ((w.alloc (.cells (prodC x) 46)).alloc (.cells #[.func (.func K) #[] lb] 70)) := ((Below.refl _ _).alloc (Nat.le_refl _) _).alloc (by simp) _
  have HC := Lib.hid (allSym_any x.ra x.rc x.right (sortB p) 75 #[.pointer (some ⟨w.heap.size + 1, 0, none⟩)] (fun _ _ => by kernel_rfl) ((w.alloc (.cells (prodC x) 46)).alloc (.cells #[.func (.func K) #[] lb] 70)) (hx.below hB1) hn (fun s hs W hW =>
    f75_any s p K lb eg (w.heap.size + 1) W (by
      have hb := Blk.new (w.alloc (.cells (prodC x) 46)) 70 #[.func (.func K) #[] lb]
      rw [World.size_alloc] at hb
      exact (hb.below hW hb.lt).cell 0) (fun hk V hV => H s hs hk V (hB1.trans ((hW.trans (hV.mono hW.size)).mono (by simp; omega))))))
  have HB := Lib.hid hB1
  clear hx H hB1
  unfold sortsB
  unfold prodV prodC at *
  generalize x.right.all (sortB p) = r at *
  generalize x.right.length = n at *
  go_enter Try.func54, Try.ntmps54
  go_wp2_with fail
  refine HC.out.mono ?_
  rintro e w3 ⟨rfl, hB3⟩
  go_wp2
  go_ret
  exact ⟨rfl, HB.out.trans (hB3.mono HB.out.size)⟩
end Go.Proofs.Ytiihdbchchnncaa
