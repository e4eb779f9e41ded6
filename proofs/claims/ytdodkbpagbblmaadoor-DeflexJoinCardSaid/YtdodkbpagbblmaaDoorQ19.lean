import Derived.Test.YtdodkbpagbblmaaDoorQ18
namespace Go.Proofs.YtdodkbpagbblmaaDoor
open Go Go.RowKit

/-- Are words the same, one by one? -/
def sameL : List (Wd × Int) → List (Wd × Int) → Bool
  | [], [] => true
  | x :: xs, y :: ys => sameW x.1 y.1 && sameL xs ys
  | _, _ => false
theorem sameL_len : ∀ (l k : List (Wd × Int)), l.length ≠ k.length → sameL l k = false := by
  intro l
  induction l with
  | nil => intro k h; cases k with | nil => simp at h | cons y k => rfl
  | cons x l ih =>
    intro k h
    cases k with
    | nil => rfl
    | cons y k => unfold sameL; rw [ih k (by simp at h; omega)]; simp
theorem sameL_at (l k : List (Wd × Int)) (i : Nat) (x y : Wd × Int) (hx : l[i]? = some x) (hy : k[i]? = some y) : sameL (l.drop i) (k.drop i) = (sameW x.1 y.1 && sameL (l.drop (i + 1)) (k.drop (i + 1))) := by
  obtain ⟨h1, e1⟩ := List.getElem?_eq_some_iff.1 hx
  obtain ⟨h2, e2⟩ := List.getElem?_eq_some_iff.1 hy
  rw [List.drop_eq_getElem_cons h1, List.drop_eq_getElem_cons h2, e1, e2]
  rfl

set_option maxRecDepth 100000 in
set_option maxHeartbeats 4000000 in
theorem equalFunc_any (a b : Option Addr) (ca cb : Nat) (l k : List (Wd × Int)) (w : World) (hl : RowW w a l) (hk : RowW w b k) (hll : l.length ≤ 1048576) (hkl : k.length ≤ 1048576) :
    Calls Tryd.prog 19 #[.slice a l.length ca, .slice b k.length cb, .func (.func 20) #[] #[]] w fun e w' => e = .returned (.bool (sameL l k)) ∧ Below w.heap.size w w' := by
  have HD := Lib.hid hl
  have HK := Lib.hid hk
  clear hl hk
  by_cases hne : l.length = k.length
  · obtain ⟨n, hn⟩ : ∃ n, n = l.length := ⟨_, rfl⟩
    rw [← hne, ← hn]
    have HN : Hid (l.length = n ∧ k.length = n) := ⟨hn.symm, by rw [← hne, hn]⟩
    have hn1 : n ≤ 1048576 := by rw [hn]; exact hll
    clear hne hn hll hkl
    go_enter Tryd.func19, Tryd.ntmps19
    go_wp2
    go_loopw [17] (fun i wr => ∃ (m : Nat), i = .int .i64 m ∧ m ≤ n ∧ Hid (sameL l k = sameL (l.drop m) (k.drop m)) ∧ Hid (Below w.heap.size w wr))
      (fun i _ => n - (intOf i).toNat)
    case atStart => exact ⟨0, rfl, Nat.zero_le _, Lib.hid rfl, Below.refl _ _⟩
    case round =>
      obtain ⟨m, rfl, hm, hS, hB⟩ := hrel
      by_cases hlt : m < n
      · have HX : Hid (l[m]? = some (l[m]'(by rw [HN.out.1]; exact hlt))) := Lib.hid (List.getElem?_eq_getElem _)
        have HY : Hid (k[m]? = some (k[m]'(by rw [HN.out.2]; exact hlt))) := Lib.hid (List.getElem?_eq_getElem _)
        obtain ⟨x, hx⟩ : ∃ x, l[m]'(by rw [HN.out.1]; exact hlt) = x := ⟨_, rfl⟩
        obtain ⟨y, hy⟩ : ∃ y, k[m]'(by rw [HN.out.2]; exact hlt) = y := ⟨_, rfl⟩
        rw [hx] at HX
        rw [hy] at HY
        clear hx hy
        have HS := Lib.hid (sameL_at l k m x y HX.out HY.out)
        obtain ⟨x, ax⟩ := x
        obtain ⟨y, ay⟩ := y
        obtain ⟨g, off, rfl, hW⟩ := HD.out m _ HX.out
        obtain ⟨h, ofg, rfl, hV⟩ := HK.out m _ HY.out
        have hW := hW.below hB.out hW.lt
        have hV := hV.below hB.out hV.lt
        have bg := hW.lt
        have bh := hV.lt
        obtain ⟨c0, c1, c2, c3, c4, c5, c6, c7⟩ := hW
        obtain ⟨d0, d1, d2, d3, d4, d5, d6, d7⟩ := hV
        dsimp only at c0 c1 c2 c3 c4 c5 c6 c7 d0 d1 d2 d3 d4 d5 d6 d7 HS
        have hszr := hB.out.size
        have HC := fun w' => Lib.hid (same1_any x y ax ay w')
        obtain ⟨r, hr⟩ : ∃ r, r = sameW x y := ⟨_, rfl⟩
        rw [← hr] at HC HS
        unfold wordV wordC at HC
        clear hr
        have hB2 : Below w.heap.size w ((wr.alloc (.cells (wordC x ax) 38)).alloc (.cells (wordC y ay) 38)) := (hB.out.alloc hszr _).alloc (by simp; omega) _
        have HB2 := Lib.hid hB2
        clear hB2
        unfold wordC at HB2
        have n1 : (m : Int) < (n : Int) := by omega
        cases r with
        | true =>
          have HS2 : Hid (sameL l k = sameL (l.drop (m + 1)) (k.drop (m + 1))) := Lib.hid (by rw [hS.out, HS.out, Bool.true_and])
          clear hS HS HX HY
          go_wp2_with (go_at_call 20; refine (HC _).out.mono ?_; rintro e w3 ⟨rfl, hB3⟩)
          have HB3 := Lib.hid (HB2.out.trans (hB3.mono HB2.out.size))
          clear hB3
          go_wp2
          go_roundw
          case rel => exact ⟨m + 1, by go_num, by omega, HS2, HB3⟩
          case measure => simp [intOf]; omega
        | false =>
          have HS2 : Hid (sameL l k = false) := Lib.hid (by rw [hS.out, HS.out, Bool.false_and])
          clear hS HS HX HY
          go_wp2_with (go_at_call 20; refine (HC _).out.mono ?_; rintro e w3 ⟨rfl, hB3⟩)
          have HB3 := Lib.hid (HB2.out.trans (hB3.mono HB2.out.size))
          clear hB3
          go_wp2
          go_ret
          exact ⟨by rw [HS2.out]; rfl, HB3.out⟩
      · obtain rfl : m = n := by omega
        have HS2 : Hid (sameL l k = true) := by
          refine Lib.hid ?_
          rw [hS.out, List.drop_eq_nil_of_le (by rw [HN.out.1]; exact Nat.le_refl _), List.drop_eq_nil_of_le (by rw [HN.out.2]; exact Nat.le_refl _)]
          rfl
        clear hS
        go_wp2
        go_ret
        exact ⟨by rw [HS2.out]; rfl, hB.out⟩
  · have HS := Lib.hid (sameL_len l k hne)
    have n1 : ¬ (l.length : Int) = (k.length : Int) := by omega
    go_enter Tryd.func19, Tryd.ntmps19
    go_wp2
    go_ret
    exact ⟨by rw [HS.out]; rfl, Below.refl _ _⟩

set_option maxRecDepth 100000 in
theorem same_any (a b : Option Addr) (ca cb : Nat) (l k : List (Wd × Int)) (w : World) (hl : RowW w a l) (hk : RowW w b k) (hll : l.length ≤ 1048576) (hkl : k.length ≤ 1048576) :
    Calls Tryd.prog 12 #[.slice a l.length ca, .slice b k.length cb] w fun e w' => e = .returned (.bool (sameL l k)) ∧ Below w.heap.size w w' := by
  have HC := Lib.hid (equalFunc_any a b ca cb l k w hl hk hll hkl)
  clear hl hk
  go_enter Tryd.func12, Tryd.ntmps12
  go_wp2_with (go_at_call 19; refine HC.out.mono ?_; rintro e w3 ⟨rfl, hB3⟩)
  go_ret
  exact ⟨rfl, hB3⟩
end Go.Proofs.YtdodkbpagbblmaaDoor
