import Derived.Test.YtiihdbchchnncaaM4
import Derived.Test.YtiihdbchchnncaaM5
import Derived.Test.YtiihdbchchnncaaM6
import Derived.Test.YtiihdbchchnncaaM8
import Derived.Test.YtiihdbchchnncaaM10
import Derived.Test.YtiihdbchchnncaaM11
section
namespace Go.Proofs.Ytiihdbchchnncaa
open Go Go.RowKit

set_option maxRecDepth 100000 in
set_option maxHeartbeats 2000000 in
/-- The reference's can. -/
theorem can_any (x : ProdM) (L : List Bool) (aL : Option Addr) (cL : Nat) (w : World) (hx : ProdIn w x) (hrow : RowBool w aL L) (hn : x.right.length ≤ 1048576) (hL : L.length ≤ 1048576)
    (hs : ∀ s, s ∈ x.right → s.kind = 1 → ∃ k : Nat, s.sort = k ∧ k < L.length) :
    Calls Try.prog 58 #[prodV x, .slice aL L.length cL] w fun e w' => e = .returned (.bool (okP L x)) ∧ Below w.heap.size w w' := by
  have HB0 : Hid (Blk (w.alloc (.cells (prodC x) 46)) w.heap.size 46 (prodC x) ∧ Below w.heap.size w (w.alloc (.cells (prodC x) 46))) := Lib.hid ⟨Blk.new w 46 _, (Below.refl _ _).alloc (Nat.le_refl _) _⟩
  have HX := Lib.hid hx
  have HL := Lib.hid hrow
  have HS := Lib.hid hs
  obtain ⟨q, hq⟩ : ∃ q, q = okP L x := ⟨_, rfl⟩
  rw [← hq]
  have HQ : Hid (q = (!(x.role == 11) && x.right.all (sortB (lv L)))) := Lib.hid hq
  have HN : Hid (∀ (i : Nat) (s : SymM), x.right[i]? = some s → sortB (lv L) s = false → q = false) := Lib.hid fun i s hi h => by
    rw [HQ.out, List.all_eq_false.2 ⟨s, List.mem_of_getElem? hi, by rw [h]; simp⟩, Bool.and_false]
  have HY : Hid ((x.role == 11) = false → (∀ (i : Nat) (s : SymM), x.right[i]? = some s → sortB (lv L) s = true) → q = true) := Lib.hid fun h1 h => by
    rw [HQ.out, h1, List.all_eq_true.2 (fun s hm => by obtain ⟨i, hi⟩ := List.mem_iff_getElem?.1 hm; exact h i s hi)]; rfl
  obtain ⟨n, hn'⟩ : ∃ n : Nat, n = x.right.length := ⟨_, rfl⟩
  have HNL := Lib.hid hn'
  obtain ⟨m, hm⟩ : ∃ n : Nat, n = L.length := ⟨_, rfl⟩
  have HML := Lib.hid hm
  rw [← hn'] at hn
  rw [← hm] at hL
  clear hx hrow hs hq
  unfold prodV prodC at *
  rw [← hn'] at HB0 ⊢
  rw [← hm]
  clear hn' hm
  cases k0 : (x.role == 11) with
  | true =>
    have HE : Hid (q = false) := Lib.hid (by rw [HQ.out, k0]; rfl)
    clear HQ HN HY
    go_enter Try.func58, Try.ntmps58
    go_wp2
    go_ret
    exact ⟨by rw [HE.out]; rfl, HB0.out.2⟩
  | false =>
    have HY2 := Lib.hid (HY.out k0)
    clear HY HQ
    go_enter Try.func58, Try.ntmps58
    go_wp2
    go_loopw [5] (fun vi wr => ∃ k : Nat, vi = .int .i64 k ∧ k ≤ n ∧ Hid (∀ (i : Nat) (s : SymM), i < k → x.right[i]? = some s → sortB (lv L) s = true) ∧ Hid (Blk wr w.heap.size 46 #[.int .i64 x.left, .slice x.ra n x.rc, .string x.cons, .int .i64 x.role, .bool x.prefer, .bool x.avoid, .int .i64 x.frm] ∧ Below w.heap.size w wr)) (fun vi _ => n - (intOf vi).toNat)
    case atStart => exact ⟨0, rfl, Nat.zero_le _, Lib.hid (fun j s hj => by omega), HB0⟩
    case round =>
      clear HB0
      obtain ⟨k, rfl, hk, hS, K⟩ := hrel
      obtain ⟨p0, p1, p2, p3, p4, p5, p6⟩ := cells7g K.out.1
      have l0 := K.out.1.lt
      by_cases hlt : k < n
      · obtain ⟨s, hs⟩ : ∃ s, x.right[k]? = some s := ⟨_, List.getElem?_eq_getElem (by rw [← HNL.out]; exact hlt)⟩
        obtain ⟨b1, o1, e1, hb1, hc1, _⟩ := HX.out k s hs
        obtain ⟨x0, x1, x2, x3, x4, x5⟩ := Sym_at (hc1.below K.out.2 hb1)
        have hb1' := Nat.lt_of_lt_of_le hb1 K.out.2.size
        have z1 : (k : Int) < (n : Int) := by omega
        have z0 : (0 : Int) ≤ (k : Int) := by omega
        have HXB : Hid (sortB (lv L) s = false → q = false) := Lib.hid (HN.out k s hs)
        have HXG : Hid (sortB (lv L) s = true → ∀ (i : Nat) (y : SymM), i < k + 1 → x.right[i]? = some y → sortB (lv L) y = true) := Lib.hid (fun h i y hi hy => by
          by_cases e : i = k
          · subst e; rw [hs] at hy; cases hy; exact h
          · exact hS.out i y (by omega) hy)
        have HSk := Lib.hid (HS.out s (List.mem_of_getElem? hs))
        rw [e1] at p1
        clear hs hc1 hS e1
        obtain ⟨sk, ss, so⟩ := s
        dsimp only at *
        cases k1 : (sk == 1) with
        | false =>
          have HZ2 := Lib.hid (HXG.out (by unfold sortB; rw [k1]; rfl))
          clear HXB HXG HSk
          go_wp2
          go_roundw
          case rel => exact ⟨k + 1, by go_num, by omega, HZ2, K⟩
          case measure => simp [intOf]; omega
        | true =>
          obtain ⟨j, rfl, hj⟩ := HSk.out (by simpa using k1)
          obtain ⟨b2, o2, rfl, hb2, hc2, ht⟩ := HL.out j _ (List.getElem?_eq_getElem hj)
          have y0 := Bool_at (hc2.below K.out.2 hb2)
          have hlv : lv L (j : Int) = L[j] := by unfold lv; simp [List.getD_eq_getElem?_getD, hj]
          rw [← hlv, Nat.mul_one] at y0
          have hb2' := Nat.lt_of_lt_of_le hb2 K.out.2.size
          have z3 : (j : Int) < (m : Int) := by have := HML.out; omega
          have z4 : (0 : Int) ≤ (j : Int) := by omega
          obtain ⟨v, hv⟩ : ∃ v, v = lv L (j : Int) := ⟨_, rfl⟩
          have HV := Lib.hid hv
          rw [← hv] at y0
          clear ht hc2 hlv hv hj HSk HL
          cases v with
          | false =>
            have HE := Lib.hid (HXB.out (by unfold sortB; rw [k1, ← HV.out]; rfl))
            clear HXB HXG HN
            go_wp2
            go_ret
            exact ⟨by rw [HE.out]; rfl, K.out.2⟩
          | true =>
            have HZ2 := Lib.hid (HXG.out (by unfold sortB; rw [k1, ← HV.out]; rfl))
            clear HXB HXG
            go_wp2
            go_roundw
            case rel => exact ⟨k + 1, by go_num, by omega, HZ2, K⟩
            case measure => simp [intOf]; omega
      · obtain rfl : n = k := by omega
        have HE := Lib.hid (HY2.out (fun i s hs => hS.out i s (by have := (List.getElem?_eq_some_iff.1 hs).1; have := HNL.out; omega) hs))
        clear hS HY2 HN
        go_wp2
        go_ret
        exact ⟨by rw [HE.out]; rfl, K.out.2⟩

theorem count_set_le {L : List Bool} (i : Nat) : (L.set i true).count false ≤ L.count false := by
  induction L generalizing i with
  | nil => simp
  | cons b r ih =>
    cases i with
    | zero => cases b <;> simp
    | succ i => simp only [List.set_cons_succ, List.count_cons]; have := ih i; omega
theorem set_same {L : List Bool} {i : Nat} (h : L[i]? = some true) : L.set i true = L := by
  apply List.ext_getElem?
  intro k
  rw [List.getElem?_set]
  split
  · next e => subst e; rw [h]; have := (List.getElem?_eq_some_iff.1 h).1; simp [this]
  · rfl
theorem closed_full {g : GramM} {L : List Bool} (hm : MayB g) (hl : L.length = g.sorts.length) (h : L.count false = 0) : Closed g L := by
  intro x hx _
  obtain ⟨k, hk, hkn⟩ := hm.left x hx
  refine lv_some ?_
  rw [hk, Int.toNat_natCast, List.getElem?_eq_getElem (by omega)]
  cases e : L[k]'(by omega) with
  | true => rfl
  | false =>
    have : false ∈ L := by rw [← e]; exact List.getElem_mem _
    have := List.count_pos_iff.2 this
    omega

/-- How far a round of the reference's Productive has come. -/
def RoundP (g : GramM) (r : Nat) (L0 : List Bool) (j : Nat) (L : List Bool) : Prop :=
  (L = L0 ∧ (∀ (i : Nat) (x : ProdM), i < j → g.prods[i]? = some x → okP L0 x = true → lv L0 x.left = true) ∧ (Closed g L0 ∨ r + L0.count false ≤ g.sorts.length)) ∨ r + 1 + L.count false ≤ g.sorts.length
theorem RoundP.no {g : GramM} {r : Nat} {L0 : List Bool} {j : Nat} {L : List Bool} (h : RoundP g r L0 j L) {x : ProdM} (hx : g.prods[j]? = some x) (hc : okP L x = false) : RoundP g r L0 (j + 1) L := by
  rcases h with ⟨rfl, h1, h2⟩ | h
  · refine .inl ⟨rfl, fun i y hi hy hok => ?_, h2⟩
    by_cases e : i = j
    · subst e; rw [hx] at hy; cases hy; rw [hc] at hok; cases hok
    · exact h1 i y (by omega) hy hok
  · exact .inr h
theorem RoundP.yes {g : GramM} {r : Nat} {L0 : List Bool} {j : Nat} {L : List Bool} (h : RoundP g r L0 j L) (hl : L.length = g.sorts.length) {x : ProdM} (hx : g.prods[j]? = some x) {k : Nat} (hk : x.left = k) (hkn : k < g.sorts.length) (hc : okP L x = true) : RoundP g r L0 (j + 1) (L.set k true) := by
  rcases h with ⟨rfl, h1, h2⟩ | h
  · cases e : L[k]'(by omega) with
    | true =>
      have e' : L[k]? = some true := by rw [List.getElem?_eq_getElem (by omega), e]
      rw [set_same e']
      refine .inl ⟨rfl, fun i y hi hy hok => ?_, h2⟩
      by_cases ei : i = j
      · subst ei; rw [hx] at hy; cases hy; refine lv_some ?_; rw [hk, Int.toNat_natCast]; exact e'
      · exact h1 i y (by omega) hy hok
    | false =>
      have e' : L[k]? = some false := by rw [List.getElem?_eq_getElem (by omega), e]
      have hcnt := count_set e'
      rcases h2 with h2 | h2
      · have := lv_true (h2 x (List.mem_of_getElem? hx) hc)
        rw [hk, Int.toNat_natCast, e'] at this
        cases this
      · exact .inr (by omega)
  · have := count_set_le (L := L) k
    exact .inr (by omega)
theorem RoundP.done {g : GramM} {r : Nat} {L0 L : List Bool} (h : RoundP g r L0 g.prods.length L) : Closed g L ∨ r + 1 + L.count false ≤ g.sorts.length := by
  rcases h with ⟨rfl, h1, _⟩ | h
  · refine .inl fun x hx hok => ?_
    obtain ⟨i, hi⟩ := List.mem_iff_getElem?.1 hx
    exact h1 i x ((List.getElem?_eq_some_iff.1 hi).1) hi hok
  · exact .inr h

/-- What the reference's Productive's blocks hold. -/
structure PJ (g : GramM) (w wr : World) (L : List Bool) : Prop where
  b0 : Blk wr w.heap.size 27 (gramC g)
  b1 : Blk wr (w.heap.size + 1) 4 (bools L)
  b : Below w.heap.size w wr
  len : L.length = g.sorts.length
  sound : Sound g L
theorem PJ.below {g : GramM} {w wr W : World} {L : List Bool} (h : PJ g w wr L) (hB : Below wr.heap.size wr W) : PJ g w W L :=
  ⟨h.b0.below hB h.b0.lt, h.b1.below hB h.b1.lt, h.b.trans (hB.mono h.b.size), h.len, h.sound⟩
theorem PJ.set {g : GramM} {w wr : World} {L : List Bool} (h : PJ g w wr L) {x : ProdM} (hx : x ∈ g.prods) (k : Nat) (hk : x.left = k) (hc : okP L x = true) : PJ g w (wr.setCell ⟨w.heap.size + 1, k, none⟩ (.bool true)) (L.set k true) :=
  ⟨h.b0.other (by show w.heap.size ≠ w.heap.size + 1; omega) _, by rw [← bools_set]; exact h.b1.set k _,
    h.b.setCell (p := ⟨w.heap.size + 1, k, none⟩) (by show w.heap.size ≤ w.heap.size + 1; omega) _, by rw [List.length_set]; exact h.len, by
      have := sound_set h.sound hx hc
      rw [hk, Int.toNat_natCast] at this
      exact this⟩
end Go.Proofs.Ytiihdbchchnncaa
end
section
namespace Go.Proofs.Ytiihdbchchnncaa
open Go Go.RowKit

set_option maxRecDepth 100000 in
set_option maxHeartbeats 2000000 in
/-- The reference's Productive. -/
theorem rproductive_any (g : GramM) (hm : MayB g) (hf : Fit g) (w : World) (hg : GIn w g) :
    Calls Try.prog 38 #[gramV g] w fun e w' => ∃ L, Live g L ∧ e = .returned (.slice (some ⟨w.heap.size + 1, 0, none⟩) L.length L.length) ∧ Blk w' (w.heap.size + 1) 4 (bools L) ∧ Below w.heap.size w w' := by
  have HG := Lib.hid hg
  have hmk := fun w' => make_bools g.sorts.length hm.sorts2 w'
  have HM := Lib.hid hm
  have HF := Lib.hid hf
  have hn1 := hm.sorts2
  have hn2 := hm.prods
  have hP0 : PJ g w ((w.alloc (.cells (gramC g) 27)).alloc (.cells (bools (List.replicate g.sorts.length false)) 4)) (List.replicate g.sorts.length false) := by
    have hb2 := Blk.new (w.alloc (.cells (gramC g) 27)) 4 (bools (List.replicate g.sorts.length false))
    rw [World.size_alloc] at hb2
    refine ⟨(Blk.new w 27 (gramC g)).alloc _, hb2, ((Below.refl _ w).alloc (Nat.le_refl _) _).alloc (by simp) _, by simp, fun k hk => ?_⟩
    rw [List.getElem?_replicate] at hk
    split at hk <;> simp at hk
  have HP0 : Hid (PJ g w ((w.alloc (.cells (gramC g) 27)).alloc (.cells (bools (List.replicate g.sorts.length false)) 4)) (List.replicate g.sorts.length false) ∧ (Closed g (List.replicate g.sorts.length false) ∨ 0 + (List.replicate g.sorts.length false).count false ≤ g.sorts.length)) := Lib.hid ⟨hP0, .inr (by simp)⟩
  have HEnd : Hid (∀ (W : World) (L : List Bool), PJ g w W L → (Closed g L ∨ g.sorts.length + L.count false ≤ g.sorts.length) → Live g L) := Lib.hid fun W L h hc => by
    refine live_of h.len h.sound ?_
    rcases hc with hc | hc
    · exact hc
    · exact closed_full hm h.len (by omega)
  obtain ⟨n, hn⟩ : ∃ n, n = g.sorts.length := ⟨_, rfl⟩
  obtain ⟨np, hnp⟩ : ∃ n, n = g.prods.length := ⟨_, rfl⟩
  have N1 := Lib.hid hn
  have N2 := Lib.hid hnp
  rw [← hn] at hn1 HP0 hmk
  rw [← hnp] at hn2
  clear hm hf hg hP0
  unfold gramV gramC at *
  rw [← hn, ← hnp] at HP0 ⊢
  clear hn hnp
  obtain ⟨RL, hRL⟩ : ∃ RL : List Bool, RL = List.replicate n false := ⟨_, rfl⟩
  rw [← hRL] at HP0 hmk
  clear hRL
  go_enter Try.func38, Try.ntmps38
  go_wp2
  go_loopw [4] (fun vi wr => ∃ r : Nat, vi = .int .i64 r ∧ r ≤ n ∧ ∃ L, Hid (PJ g w wr L ∧ (Closed g L ∨ r + L.count false ≤ g.sorts.length))) (fun vi _ => n - (intOf vi).toNat)
  case atStart => exact ⟨0, rfl, Nat.zero_le _, RL, Lib.hid ⟨HP0.out.1, by rw [← N1.out]; exact HP0.out.2⟩⟩
  case round =>
    clear HP0 hmk
    obtain ⟨r, rfl, hr, L, K⟩ := hrel
    obtain ⟨c0, c1, c2, c3, c4⟩ := K.out.1.b0.gram
    rw [← N1.out] at c0
    rw [← N2.out] at c1
    have l0 := K.out.1.b0.lt
    by_cases hlt : r < n
    · have z1 : (r : Int) < (n : Int) := by omega
      have K0 : Hid (PJ g w wr L ∧ RoundP g r L 0 L) := Lib.hid ⟨K.out.1, .inl ⟨rfl, fun i x hi => by omega, K.out.2⟩⟩
      clear K
      go_wp2
      obtain ⟨wo, rfl⟩ : ∃ wo : World, wo = wr := ⟨_, rfl⟩
      go_loopw [5] (fun vj wr => ∃ j : Nat, vj = .int .i64 j ∧ j ≤ np ∧ ∃ M, Hid (PJ g w wr M ∧ RoundP g r L j M)) (fun vj _ => np - (intOf vj).toNat)
      case atStart => exact ⟨0, rfl, Nat.zero_le _, L, K0⟩
      case round =>
        clear K0 c0 c1 c2 c3 c4 l0
        obtain ⟨j, rfl, hj, M, K⟩ := hrel
        obtain ⟨c0, c1, c2, c3, c4⟩ := K.out.1.b0.gram
        rw [← N1.out] at c0
        rw [← N2.out] at c1
        have l0 := K.out.1.b0.lt
        by_cases hlj : j < np
        · obtain ⟨x, hx⟩ : ∃ x, g.prods[j]? = some x := ⟨_, List.getElem?_eq_getElem (by rw [← N2.out]; exact hlj)⟩
          obtain ⟨b1, o1, e1, hb1, hc1, hi1⟩ := HG.out.prods j x hx
          obtain ⟨x0, x1, x2, x3, x4, x5, x6⟩ := Prod_at (hc1.below K.out.1.b hb1)
          have hb1' := Nat.lt_of_lt_of_le hb1 K.out.1.b.size
          have z2 : (j : Int) < (np : Int) := by omega
          have z0 : (0 : Int) ≤ (j : Int) := by omega
          have hxm := List.mem_of_getElem? hx
          obtain ⟨k, hk, hkn⟩ := HM.out.left x hxm
          have HC := Lib.hid (can_any x M (some ⟨w.heap.size + 1, 0, none⟩) M.length wr (hi1.below K.out.1.b) K.out.1.b1.row (HF.out.right x hxm) (by rw [K.out.1.len, ← N1.out]; omega) (fun s hs hk => by rw [K.out.1.len]; exact HM.out.sym x hxm s hs hk))
          have HNo : Hid (okP M x = false → RoundP g r L (j + 1) M) := Lib.hid fun h => K.out.2.no hx h
          have HYes : Hid (okP M x = true → RoundP g r L (j + 1) (M.set k true) ∧ ∀ W, PJ g w W M → PJ g w (W.setCell ⟨w.heap.size + 1, k, none⟩ (.bool true)) (M.set k true)) := Lib.hid fun h => ⟨K.out.2.yes K.out.1.len hx hk hkn h, fun W hW => hW.set hxm k hk h⟩
          have hlen := K.out.1.len
          rw [hlen, ← N1.out] at HC
          have HCX := Lib.hid hc1
          have E1 := Lib.hid e1
          rw [e1] at c1
          rw [hk] at x0
          have hkn' : k < n := by rw [N1.out]; exact hkn
          have HK := Lib.hid hk
          clear hx hc1 hi1 e1 hxm hk hkn hlen
          generalize okP M x = c at *
          unfold prodV prodC at HC
          rw [HK.out] at HC
          go_wp2_with fail
          with_reducible refine HC.out.mono ?_
          rintro e w3 ⟨rfl, hB3⟩
          have K3 := Lib.hid (K.out.1.below hB3)
          obtain ⟨d0, d1, d2, d3, d4⟩ := K3.out.b0.gram
          rw [← N1.out] at d0
          rw [← N2.out, E1.out] at d1
          obtain ⟨y0, _⟩ := Prod_at (HCX.out.below K3.out.b hb1)
          rw [HK.out] at y0
          have l3 := K3.out.b0.lt
          have hb3 := Nat.lt_of_lt_of_le hb1 K3.out.b.size
          clear hB3 K c0 c1 c2 c3 c4 x0 x1 x2 x3 x4 x5 x6 l0 HC
          cases c with
          | false =>
            have HR := Lib.hid (HNo.out rfl)
            clear HNo HYes
            go_wp2
            go_roundw
            case rel => exact ⟨j + 1, by go_num, by omega, M, Lib.hid ⟨K3.out, HR.out⟩⟩
            case measure => simp [intOf]; omega
          | true =>
            obtain ⟨hr1, hr2⟩ := HYes.out rfl
            have HR := Lib.hid hr1
            have HP := Lib.hid (hr2 w3 K3.out)
            have f1 := K3.out.b1.frozen k
            have q1 := K3.out.b1.cell k
            rw [bools_at M k (by rw [K3.out.len, ← N1.out]; exact hkn')] at q1
            have l4 := K3.out.b1.lt
            have z3 : (k : Int) < (n : Int) := by omega
            have z4 : (0 : Int) ≤ (k : Int) := by omega
            clear HNo HYes hr1 hr2
            go_wp2
            go_roundw
            case rel => exact ⟨j + 1, by go_num, by omega, M.set k true, Lib.hid ⟨HP.out, HR.out⟩⟩
            case measure => simp [intOf]; omega
        · obtain rfl : np = j := by omega
          have HD : Hid (PJ g w wr M ∧ (Closed g M ∨ r + 1 + M.count false ≤ g.sorts.length)) := Lib.hid ⟨K.out.1, by
            have h := K.out.2
            rw [N2.out] at h
            exact h.done⟩
          clear K
          go_wp2
          go_roundw
          case rel => exact ⟨r + 1, by go_num, by omega, M, HD⟩
          case measure => simp [intOf]; omega
    · obtain rfl : n = r := by omega
      have HL := Lib.hid (HEnd.out wr L K.out.1 (by have := K.out.2; rw [N1.out] at this; exact this))
      have hl := K.out.1.len
      rw [← N1.out] at hl
      have Hl := Lib.hid hl
      have HK1 := Lib.hid K.out.1
      clear K hl
      go_wp2
      go_ret
      exact ⟨L, HL.out, by rw [Hl.out]; rfl, HK1.out.b1, HK1.out.b⟩
end Go.Proofs.Ytiihdbchchnncaa
end
section
namespace Go.Proofs.Ytiihdbchchnncaa
open Go Go.RowKit

/-- The productions that the reference's Reached goes by. -/
def useB (u : Bool) (L : List Bool) (x : ProdM) : Bool := !(x.role == 11) && (!u || okP L x)
def EdgeU (g : GramM) (u : Bool) (L : List Bool) (k t : Nat) : Prop := ∃ x, x ∈ g.prods ∧ x.left = k ∧ useB u L x = true ∧ ∃ s, s ∈ x.right ∧ s.kind = 1 ∧ s.sort = t
inductive RU (g : GramM) (u : Bool) (L : List Bool) (j : Nat) : Nat → Prop
  | refl : RU g u L j j
  | step {k t : Nat} : RU g u L j k → EdgeU g u L k t → RU g u L j t
def SoundU (g : GramM) (u : Bool) (L M : List Bool) : Prop := ∀ k : Nat, M[k]? = some true → RU g u L g.start.toNat k
def ClosedU (g : GramM) (u : Bool) (L M : List Bool) : Prop := ∀ x, x ∈ g.prods → useB u L x = true → lv M x.left = true → ∀ s, s ∈ x.right → s.kind = 1 → lv M s.sort = true
def ReachU (g : GramM) (u : Bool) (L R : List Bool) : Prop := R.length = g.sorts.length ∧ ∀ k : Nat, R[k]? = some true ↔ RU g u L g.start.toNat k
theorem reachU_of {g : GramM} {u : Bool} {L R : List Bool} (hl : R.length = g.sorts.length) (hs : R[g.start.toNat]? = some true) (h : SoundU g u L R) (hC : ClosedU g u L R) : ReachU g u L R := by
  refine ⟨hl, fun k => ⟨h k, fun hk => ?_⟩⟩
  induction hk with
  | refl => exact hs
  | step _ e ih =>
    obtain ⟨x, hx, hl, hu, s, hsx, hk, hst⟩ := e
    have := lv_true (hC x hx hu (lv_some (by rw [hl, Int.toNat_natCast]; exact ih)) s hsx hk)
    rw [hst, Int.toNat_natCast] at this
    exact this
/-- With all sorts live the edges are those of the program's own. -/
theorem edgeU_iff {g : GramM} (h11 : ∀ x, x ∈ g.prods → x.role = 11 → ∀ s, s ∈ x.right → s.kind ≠ 1) {u : Bool} {L : List Bool} (h : u = true ∨ ∀ x, x ∈ g.prods → sortsB (lv L) x = true) {k t : Nat} : EdgeU g u L k t ↔ Edge g L k t := by
  constructor
  · rintro ⟨x, hx, hl, hu, s, hs, hk, ht⟩
    refine ⟨x, hx, hl, ?_, s, hs, hk, ht⟩
    rcases h with rfl | h
    · unfold useB okP at hu
      simp only [Bool.not_true, Bool.false_or, Bool.and_eq_true] at hu
      exact hu.2.2
    · exact h x hx
  · rintro ⟨x, hx, hl, hu, s, hs, hk, ht⟩
    refine ⟨x, hx, hl, ?_, s, hs, hk, ht⟩
    have e : (x.role == 11) = false := by
      cases c : (x.role == 11) with
      | false => rfl
      | true => exact absurd hk (h11 x hx (by simpa using c) s hs)
    unfold useB okP
    rw [e, hu]
    cases u <;> rfl
theorem reachU_iff {g : GramM} (h11 : ∀ x, x ∈ g.prods → x.role = 11 → ∀ s, s ∈ x.right → s.kind ≠ 1) {u : Bool} {L R : List Bool} (h : u = true ∨ ∀ x, x ∈ g.prods → sortsB (lv L) x = true) : ReachU g u L R ↔ ReachL g L R := by
  have e : ∀ k, RU g u L g.start.toNat k ↔ RF g L g.start.toNat k := fun k => by
    constructor
    · intro hk
      induction hk with
      | refl => exact .refl
      | step _ e ih => exact ih.step ((edgeU_iff h11 h).1 e)
    · intro hk
      induction hk with
      | refl => exact .refl
      | step _ e ih => exact ih.step ((edgeU_iff h11 h).2 e)
  unfold ReachU ReachL
  simp only [e]

/-- How far a round has come. -/
def RS (n r : Nat) (C0 : Prop) (M0 : List Bool) (Q : Prop) (M : List Bool) : Prop := (M = M0 ∧ Q ∧ (C0 ∨ r + M0.count false ≤ n)) ∨ r + 1 + M.count false ≤ n
theorem RS.imp {n r : Nat} {C0 Q Q' : Prop} {M0 M : List Bool} (h : RS n r C0 M0 Q M) (hq : M = M0 → Q → Q') : RS n r C0 M0 Q' M := by
  rcases h with ⟨h1, h2, h3⟩ | h
  · exact .inl ⟨h1, hq h1 h2, h3⟩
  · exact .inr h
theorem RS.set {n r k : Nat} {C0 Q Q' : Prop} {M0 M : List Bool} (h : RS n r C0 M0 Q M) (hk : k < M.length) (hc : M = M0 → C0 → M0[k]? = some true) (hq : Q → M0[k]? = some true → Q') : RS n r C0 M0 Q' (M.set k true) := by
  rcases h with ⟨rfl, h2, h3⟩ | h
  · cases e : M[k]'hk with
    | true =>
      have e' : M[k]? = some true := by rw [List.getElem?_eq_getElem hk, e]
      rw [set_same e']
      exact .inl ⟨rfl, hq h2 e', h3⟩
    | false =>
      have e' : M[k]? = some false := by rw [List.getElem?_eq_getElem hk, e]
      have := count_set e'
      rcases h3 with h3 | h3
      · have := hc rfl h3
        rw [e'] at this; cases this
      · exact .inr (by omega)
  · have := count_set_le (L := M) k
    exact .inr (by omega)
def PQ (g : GramM) (u : Bool) (L M0 : List Bool) (j : Nat) : Prop := ∀ (i : Nat) (x : ProdM), i < j → g.prods[i]? = some x → useB u L x = true → lv M0 x.left = true → ∀ s, s ∈ x.right → s.kind = 1 → lv M0 s.sort = true
def PX (g : GramM) (u : Bool) (L M0 : List Bool) (j : Nat) (x : ProdM) (m : Nat) : Prop := PQ g u L M0 j ∧ ∀ (i : Nat) (s : SymM), i < m → x.right[i]? = some s → s.kind = 1 → lv M0 s.sort = true
theorem PQ.zero (g : GramM) (u : Bool) (L M0 : List Bool) : PQ g u L M0 0 := fun i x hi => by omega
theorem PQ.skip {g : GramM} {u : Bool} {L M0 : List Bool} {j : Nat} {x : ProdM} (h : PQ g u L M0 j) (hx : g.prods[j]? = some x) (hn : useB u L x = false ∨ lv M0 x.left = false) : PQ g u L M0 (j + 1) := fun i y hi hy hu hl => by
  by_cases e : i = j
  · subst e; rw [hx] at hy; cases hy
    rcases hn with hn | hn
    · rw [hn] at hu; cases hu
    · rw [hn] at hl; cases hl
  · exact h i y (by omega) hy hu hl
theorem PQ.px {g : GramM} {u : Bool} {L M0 : List Bool} {j : Nat} (x : ProdM) (h : PQ g u L M0 j) : PX g u L M0 j x 0 := ⟨h, fun i s hi => by omega⟩
theorem PX.skip {g : GramM} {u : Bool} {L M0 : List Bool} {j : Nat} {x : ProdM} {m : Nat} (h : PX g u L M0 j x m) {s : SymM} (hs : x.right[m]? = some s) (hn : s.kind = 1 → lv M0 s.sort = true) : PX g u L M0 j x (m + 1) := ⟨h.1, fun i y hi hy hk => by
  by_cases e : i = m
  · subst e; rw [hs] at hy; cases hy; exact hn hk
  · exact h.2 i y (by omega) hy hk⟩
theorem PX.done {g : GramM} {u : Bool} {L M0 : List Bool} {j : Nat} {x : ProdM} (h : PX g u L M0 j x x.right.length) (hx : g.prods[j]? = some x) : PQ g u L M0 (j + 1) := fun i y hi hy hu hl s hs hk => by
  by_cases e : i = j
  · subst e; rw [hx] at hy; cases hy
    obtain ⟨m, hm⟩ := List.mem_iff_getElem?.1 hs
    exact h.2 m s (List.getElem?_eq_some_iff.1 hm).1 hm hk
  · exact h.1 i y (by omega) hy hu hl s hs hk
theorem PQ.closed {g : GramM} {u : Bool} {L M0 : List Bool} (h : PQ g u L M0 g.prods.length) : ClosedU g u L M0 := fun x hx hu hl => by
  obtain ⟨i, hi⟩ := List.mem_iff_getElem?.1 hx
  exact h i x (List.getElem?_eq_some_iff.1 hi).1 hi hu hl

/-- What the reference's Reached's blocks hold. -/
structure RJ (g : GramM) (u : Bool) (L : List Bool) (w wr : World) (M : List Bool) : Prop where
  b0 : Blk wr w.heap.size 27 (gramC g)
  b1 : Blk wr (w.heap.size + 1) 4 (bools M)
  b2 : Blk wr (w.heap.size + 1 + 1 + 1) 4 (bools L)
  b : Below w.heap.size w wr
  len : M.length = g.sorts.length
  st : M[g.start.toNat]? = some true
  sound : SoundU g u L M
theorem RJ.below {g : GramM} {u : Bool} {L : List Bool} {w wr W : World} {M : List Bool} (h : RJ g u L w wr M) (hB : Below wr.heap.size wr W) : RJ g u L w W M :=
  ⟨h.b0.below hB h.b0.lt, h.b1.below hB h.b1.lt, h.b2.below hB h.b2.lt, h.b.trans (hB.mono h.b.size), h.len, h.st, h.sound⟩
theorem RJ.set {g : GramM} {u : Bool} {L : List Bool} {w wr : World} {M : List Bool} (h : RJ g u L w wr M) (k : Nat) (hk : RU g u L g.start.toNat k) : RJ g u L w (wr.setCell ⟨w.heap.size + 1, k, none⟩ (.bool true)) (M.set k true) :=
  ⟨h.b0.other (by show w.heap.size ≠ w.heap.size + 1; omega) _, by rw [← bools_set]; exact h.b1.set k _, h.b2.other (by show w.heap.size + 1 + 1 + 1 ≠ w.heap.size + 1; omega) _,
    h.b.setCell (p := ⟨w.heap.size + 1, k, none⟩) (by show w.heap.size ≤ w.heap.size + 1; omega) _, by rw [List.length_set]; exact h.len, by
      rw [List.getElem?_set]
      split
      · next e => subst e; have := (List.getElem?_eq_some_iff.1 h.st).1; simp [this]
      · exact h.st, fun i hi => by
      rw [List.getElem?_set] at hi
      split at hi
      · next e => subst e; exact hk
      · exact h.sound i hi⟩
theorem lv_set {M : List Bool} {k : Nat} {i : Int} (h : lv M i = true) : lv (M.set k true) i = true := by
  refine lv_some ?_
  have h := lv_true h
  rw [List.getElem?_set]
  split
  · next e => have := (List.getElem?_eq_some_iff.1 h).1; rw [e]; simp [this]
  · exact h
end Go.Proofs.Ytiihdbchchnncaa
end
section
namespace Go.Proofs.Ytiihdbchchnncaa
open Go Go.RowKit

set_option maxRecDepth 100000 in
set_option maxHeartbeats 4000000 in
/-- The reference's Reached. -/
theorem rreached_any (g : GramM) (hm : MayB g) (hf : Fit g) (u : Bool) (w : World) (hg : GIn w g) :
    Calls Try.prog 39 #[gramV g, .bool u] w fun e w' => ∃ L R, Live g L ∧ ReachU g u L R ∧ e = .returned (.slice (some ⟨w.heap.size + 1, 0, none⟩) R.length R.length) ∧ Blk w' (w.heap.size + 1) 4 (bools R) ∧ Below w.heap.size w w' := by
  have HG := Lib.hid hg
  have hmk := fun w' => make_bools g.sorts.length hm.sorts2 w'
  have HM := Lib.hid hm
  have HF := Lib.hid hf
  have hn1 := hm.sorts2
  have hn2 := hm.prods
  obtain ⟨st, hst, hstn⟩ := hm.start
  have hz : (w.alloc (.cells (gramC g) 27)).heap.size = w.heap.size + 1 := by simp
  obtain ⟨W1, hW1⟩ : ∃ W1, W1 = (w.alloc (.cells (gramC g) 27)).alloc (.cells (bools (List.replicate g.sorts.length false)) 4) := ⟨_, rfl⟩
  have hs1 : W1.heap.size = w.heap.size + 1 + 1 := by rw [hW1]; simp
  have HB1 : Hid (Below w.heap.size w W1) := Lib.hid (by rw [hW1]; exact ((Below.refl _ w).alloc (Nat.le_refl _) _).alloc (by simp) _)
  have HK0 : Hid (Blk W1 w.heap.size 27 (gramC g)) := Lib.hid (by rw [hW1]; exact (Blk.new w 27 (gramC g)).alloc _)
  have HK1 : Hid (Blk W1 (w.heap.size + 1) 4 (bools (List.replicate g.sorts.length false))) := Lib.hid (by
    have hb2 := Blk.new (w.alloc (.cells (gramC g) 27)) 4 (bools (List.replicate g.sorts.length false))
    rw [World.size_alloc] at hb2
    rw [hW1]; exact hb2)
  have HP0 := Lib.hid (rproductive_any g hm hf W1 (hg.below HB1.out))
  rw [hs1] at HP0
  have HSt : Hid (∀ (L : List Bool) (w3 : World), Blk w3 (w.heap.size + 1 + 1 + 1) 4 (bools L) → Below (w.heap.size + 1 + 1) W1 w3 →
      RJ g u L w (w3.setCell ⟨w.heap.size + 1, st, none⟩ (.bool true)) ((List.replicate g.sorts.length false).set st true) ∧ 0 + ((List.replicate g.sorts.length false).set st true).count false ≤ g.sorts.length) := Lib.hid fun L w3 h2 hB => by
    rw [← hs1] at hB
    refine ⟨⟨(HK0.out.below hB HK0.out.lt).other (by show w.heap.size ≠ w.heap.size + 1; omega) _, by rw [← bools_set]; exact (HK1.out.below hB HK1.out.lt).set st _, h2.other (by show w.heap.size + 1 + 1 + 1 ≠ w.heap.size + 1; omega) _,
      (HB1.out.trans (hB.mono (by omega))).setCell (p := ⟨w.heap.size + 1, st, none⟩) (by show w.heap.size ≤ w.heap.size + 1; omega) _, by simp, by rw [hst, Int.toNat_natCast]; simp [hstn], fun k hk => ?_⟩, ?_⟩
    · rw [List.getElem?_set] at hk
      split at hk
      · next e => subst e; rw [hst, Int.toNat_natCast]; exact .refl
      · rw [List.getElem?_replicate] at hk
        split at hk <;> simp at hk
    · have := List.count_le_length (a := false) (l := (List.replicate g.sorts.length false).set st true)
      simp at this ⊢
      omega
  have HRep : Hid (∀ w3 : World, Below (w.heap.size + 1 + 1) W1 w3 → Blk w3 w.heap.size 27 (gramC g) ∧ Blk w3 (w.heap.size + 1) 4 (bools (List.replicate g.sorts.length false)) ∧ w.heap.size + 1 < w3.heap.size) := Lib.hid fun w3 hB => by
    rw [← hs1] at hB
    exact ⟨HK0.out.below hB HK0.out.lt, HK1.out.below hB HK1.out.lt, (HK1.out.below hB HK1.out.lt).lt⟩
  have HEnd : Hid (∀ (L : List Bool) (W : World) (R : List Bool), RJ g u L w W R → (ClosedU g u L R ∨ g.sorts.length + R.count false ≤ g.sorts.length) → ReachU g u L R) := Lib.hid fun L W R h hc => by
    refine reachU_of h.len h.st h.sound ?_
    rcases hc with hc | hc
    · exact hc
    · intro x hx _ _ s hs hk
      obtain ⟨t, ht, htn⟩ := hm.sym x hx s hs hk
      refine lv_some ?_
      rw [ht, Int.toNat_natCast, List.getElem?_eq_getElem (by rw [h.len]; exact htn)]
      cases e : R[t]'(by rw [h.len]; exact htn) with
      | true => rfl
      | false =>
        have : false ∈ R := by rw [← e]; exact List.getElem_mem _
        have := List.count_pos_iff.2 this
        omega
  have HW1 := Lib.hid hW1
  obtain ⟨RL, hRL⟩ : ∃ RL : List Bool, RL = List.replicate g.sorts.length false := ⟨_, rfl⟩
  have hRl : RL.length = g.sorts.length := by rw [hRL]; simp
  rw [← hRL] at HW1 hmk HSt HRep
  have HR3 : Hid (RL.length = g.sorts.length) := Lib.hid hRl
  clear hRL hRl HK0 HK1 HB1 hW1 hs1 hz
  obtain ⟨n, hn⟩ : ∃ n, n = g.sorts.length := ⟨_, rfl⟩
  obtain ⟨np, hnp⟩ : ∃ n, n = g.prods.length := ⟨_, rfl⟩
  have N1 := Lib.hid hn
  have N2 := Lib.hid hnp
  have ST := Lib.hid hst
  rw [← hn] at hn1 hmk hstn HR3 HSt
  rw [← hnp] at hn2
  clear hm hf hg
  unfold gramV gramC
  unfold gramV gramC at HP0
  unfold gramC at HW1 HRep
  rw [← hn, ← hnp, hst] at HP0 HW1 ⊢
  rw [← hn, ← hnp, hst] at HRep
  clear hn hnp hst
  have z3 : (st : Int) < (n : Int) := by omega
  have z4 : (0 : Int) ≤ (st : Int) := by omega
  go_enter Try.func39, Try.ntmps39
  go_wp2_with fail
  rw [← HW1.out]
  with_reducible refine HP0.out.mono ?_
  rintro e w3 ⟨L, hLv, rfl, hq4, hB4⟩
  obtain ⟨HRep0, HRep1, l4⟩ := HRep.out w3 hB4
  have c2 := HRep0.cell 2
  simp only [List.getElem?_toArray, List.getElem?_cons_zero, List.getElem?_cons_succ] at c2
  have l3 := HRep0.lt
  have f1 := HRep1.frozen st
  have q1 := HRep1.cell st
  rw [bools_at RL st (by rw [HR3.out]; exact hstn)] at q1
  have HS0 := Lib.hid (HSt.out L w3 hq4 hB4)
  have HLl : Hid (L.length = n) := Lib.hid (by rw [N1.out]; exact hLv.1)
  have HLv := Lib.hid hLv
  have HLen := HLl.out
  rw [HLl.out]
  clear HRep0 HRep1 hq4 hB4 hLv HRep HSt HP0 HW1 hmk HLen
  go_wp2
  go_loopw [7] (fun vi wr => ∃ r : Nat, vi = .int .i64 r ∧ r ≤ n ∧ ∃ M, Hid (RJ g u L w wr M ∧ (ClosedU g u L M ∨ r + M.count false ≤ g.sorts.length))) (fun vi _ => n - (intOf vi).toNat)
  case atStart => exact ⟨0, rfl, Nat.zero_le _, RL.set st true, Lib.hid ⟨HS0.out.1, .inr (by rw [← N1.out]; exact HS0.out.2)⟩⟩
  case round =>
    clear HS0 c2 f1 q1 l3 l4
    obtain ⟨r, rfl, hr, M0, K⟩ := hrel
    obtain ⟨c0, c1, c2, c3, c4⟩ := K.out.1.b0.gram
    rw [← N1.out] at c0
    rw [← N2.out] at c1
    have l0 := K.out.1.b0.lt
    by_cases hlt : r < n
    · have z1 : (r : Int) < (n : Int) := by omega
      have K0 : Hid (RJ g u L w wr M0 ∧ RS g.sorts.length r (ClosedU g u L M0) M0 (PQ g u L M0 0) M0) := Lib.hid ⟨K.out.1, .inl ⟨rfl, PQ.zero _ _ _ _, K.out.2⟩⟩
      clear K
      go_wp2
      obtain ⟨wo, rfl⟩ : ∃ wo : World, wo = wr := ⟨_, rfl⟩
      go_loopw [8] (fun vj wr => ∃ j : Nat, vj = .int .i64 j ∧ j ≤ np ∧ ∃ M, Hid (RJ g u L w wr M ∧ RS g.sorts.length r (ClosedU g u L M0) M0 (PQ g u L M0 j) M)) (fun vj _ => np - (intOf vj).toNat)
      case atStart => exact ⟨0, rfl, Nat.zero_le _, M0, K0⟩
      case round =>
        clear K0 c0 c1 c2 c3 c4 l0
        obtain ⟨j, rfl, hj, M, K⟩ := hrel
        obtain ⟨c0, c1, c2, c3, c4⟩ := K.out.1.b0.gram
        rw [← N1.out] at c0
        rw [← N2.out] at c1
        have l0 := K.out.1.b0.lt
        by_cases hlj : j < np
        · obtain ⟨x, hx⟩ : ∃ x, g.prods[j]? = some x := ⟨_, List.getElem?_eq_getElem (by rw [← N2.out]; exact hlj)⟩
          obtain ⟨b1, o1, e1, hb1, hc1, hi1⟩ := HG.out.prods j x hx
          obtain ⟨x0, x1, x2, x3, x4, x5, x6⟩ := Prod_at (hc1.below K.out.1.b hb1)
          have hb1' := Nat.lt_of_lt_of_le hb1 K.out.1.b.size
          have z2 : (j : Int) < (np : Int) := by omega
          have z0 : (0 : Int) ≤ (j : Int) := by omega
          have hxm := List.mem_of_getElem? hx
          obtain ⟨k, hk, hkn⟩ := HM.out.left x hxm
          have q1 := K.out.1.b1.cell k
          rw [bools_at M k (by rw [K.out.1.len]; exact hkn)] at q1
          have l1 := K.out.1.b1.lt
          have hA : Below wr.heap.size wr (wr.alloc (.cells (prodC x) 46)) := (Below.refl _ _).alloc (Nat.le_refl _) _
          have HA : Hid (RJ g u L w (wr.alloc (.cells (prodC x) 46)) M ∧ Blk (wr.alloc (.cells (prodC x) 46)) wr.heap.size 46 (prodC x)) := Lib.hid ⟨K.out.1.below hA, Blk.new wr 46 _⟩
          have HSkip : Hid ((useB u L x = false ∨ lv M (k : Int) = false) → RS g.sorts.length r (ClosedU g u L M0) M0 (PQ g u L M0 (j + 1)) M) := Lib.hid fun h => K.out.2.imp fun e hq => hq.skip hx (by rw [hk, ← e]; exact h)
          have HQ0 : Hid (RS g.sorts.length r (ClosedU g u L M0) M0 (PX g u L M0 j x 0) M) := Lib.hid (K.out.2.imp fun _ hq => hq.px x)
          have HX := Lib.hid hx
          have HK := Lib.hid hk
          have HR := Lib.hid (hi1.below K.out.1.b)
          have HXm := Lib.hid hxm
          have HU : Hid (useB u L x = (!(x.role == 11) && (!u || okP L x))) := Lib.hid rfl
          have hrl := HM.out.right x hxm
          have HC := Lib.hid (can_any x L (some ⟨w.heap.size + 1 + 1 + 1, 0, none⟩) n (wr.alloc (.cells (prodC x) 46)) ((hi1.below K.out.1.b).below hA) HA.out.1.b2.row (HF.out.right x hxm) (by rw [HLl.out]; omega) (fun s hs hk => by rw [HLl.out, N1.out]; exact HM.out.sym x hxm s hs hk))
          rw [HLl.out] at HC
          rw [e1] at c1
          rw [hk] at x0
          have hkn' : (k : Int) < (n : Int) := by have := N1.out; omega
          have z5 : (0 : Int) ≤ (k : Int) := by omega
          have HKn := Lib.hid hkn
          obtain ⟨nr, hnr⟩ : ∃ m, m = x.right.length := ⟨_, rfl⟩
          have N3 := Lib.hid hnr
          unfold prodV prodC at HC
          unfold prodC at HA
          rw [← hnr] at x1 HC HA hrl
          rw [hk] at HC HA
          clear hx hc1 hi1 e1 hxm hk hkn hnr hA
          cases k0 : (x.role == 11) with
          | true =>
            have HE := Lib.hid (HSkip.out (.inl (by rw [HU.out, k0]; rfl)))
            clear K HSkip HQ0 HC HR
            go_wp2
            go_roundw
            case rel => exact ⟨j + 1, by go_num, by omega, M, Lib.hid ⟨HA.out.1, HE.out⟩⟩
            case measure => simp [intOf]; omega
          | false =>
            obtain ⟨v, hv⟩ : ∃ v, v = lv M (k : Int) := ⟨_, rfl⟩
            rw [← hv] at q1 HSkip
            have HV := Lib.hid hv
            clear hv
            cases v with
            | false =>
              have HE := Lib.hid (HSkip.out (.inr rfl))
              clear K HSkip HQ0 HC HR
              go_wp2
              go_roundw
              case rel => exact ⟨j + 1, by go_num, by omega, M, Lib.hid ⟨HA.out.1, HE.out⟩⟩
              case measure => simp [intOf]; omega
            | true =>
              cases u with
              | false =>
                have HUse : Hid (useB false L x = true) := Lib.hid (by rw [HU.out, k0]; rfl)
                have K3 : Hid (RJ g false L w (wr.alloc (.cells #[.int .i64 k, .slice x.ra nr x.rc, .string x.cons, .int .i64 x.role, .bool x.prefer, .bool x.avoid, .int .i64 x.frm] 46)) M ∧ Blk (wr.alloc (.cells #[.int .i64 k, .slice x.ra nr x.rc, .string x.cons, .int .i64 x.role, .bool x.prefer, .bool x.avoid, .int .i64 x.frm] 46)) wr.heap.size 46 #[.int .i64 k, .slice x.ra nr x.rc, .string x.cons, .int .i64 x.role, .bool x.prefer, .bool x.avoid, .int .i64 x.frm]) := HA
                clear K HSkip HC HA
                go_wp2
                obtain ⟨wb, rfl⟩ : ∃ wb : World, wb = wr := ⟨_, rfl⟩
                go_loopw [10] (fun vm wq => ∃ m : Nat, vm = .int .i64 m ∧ m ≤ nr ∧ ∃ M', Hid ((RJ g false L w wq M' ∧ Blk wq wb.heap.size 46 #[.int .i64 k, .slice x.ra nr x.rc, .string x.cons, .int .i64 x.role, .bool x.prefer, .bool x.avoid, .int .i64 x.frm]) ∧ lv M' (k : Int) = true ∧ RS g.sorts.length r (ClosedU g false L M0) M0 (PX g false L M0 j x m) M')) (fun vm _ => nr - (intOf vm).toNat)
                case atStart => exact ⟨0, rfl, Nat.zero_le _, M, Lib.hid ⟨K3.out, HV.out.symm, HQ0.out⟩⟩
                case round =>
                  clear K3 HQ0 HV
                  clear c0 c1 c2 c3 c4 x0 x1 x2 x3 x4 x5 x6 q1 l0 hb1' HR
                  obtain ⟨m, rfl, hmn, M', K⟩ := hrel
                  obtain ⟨p0, p1, p2, p3, p4, p5, p6⟩ := cells7g K.out.1.2
                  have lp := K.out.1.2.lt
                  by_cases hlm : m < nr
                  · obtain ⟨s, hs⟩ : ∃ s, x.right[m]? = some s := ⟨_, List.getElem?_eq_getElem (by rw [← N3.out]; exact hlm)⟩
                    obtain ⟨_, _, _, _, _, hix⟩ := HG.out.prods j x HX.out
                    obtain ⟨b2, o2, e2, hb2, hc2, _⟩ := hix m s hs
                    have hB := K.out.1.1.b
                    obtain ⟨y0, y1, y2, y3, y4, y5⟩ := Sym_at (hc2.below hB hb2)
                    have hb2' := Nat.lt_of_lt_of_le hb2 hB.size
                    have z6 : (m : Int) < (nr : Int) := by omega
                    have z7 : (0 : Int) ≤ (m : Int) := by omega
                    rw [e2] at p1
                    have hsm := List.mem_of_getElem? hs
                    have HNo : Hid (s.kind ≠ 1 → RS g.sorts.length r (ClosedU g false L M0) M0 (PX g false L M0 j x (m + 1)) M') := Lib.hid fun h => K.out.2.2.imp fun _ hq => hq.skip hs fun h2 => absurd h2 h
                    have HSy : Hid (s.kind = 1 → ∃ t : Nat, s.sort = t ∧ t < g.sorts.length ∧ RU g false L g.start.toNat t ∧ lv (M'.set t true) (k : Int) = true ∧ RS g.sorts.length r (ClosedU g false L M0) M0 (PX g false L M0 j x (m + 1)) (M'.set t true)) := Lib.hid fun h => by
                      obtain ⟨t, ht, htn⟩ := HM.out.sym x HXm.out s hsm h
                      have hkl := lv_true K.out.2.1
                      rw [Int.toNat_natCast] at hkl
                      refine ⟨t, ht, htn, (K.out.1.1.sound k hkl).step ⟨x, HXm.out, HK.out, HUse.out, s, hsm, h, ht⟩, lv_set K.out.2.1, K.out.2.2.set (by rw [K.out.1.1.len]; exact htn) (fun e hC => ?_) (fun hq h2 => hq.skip hs fun _ => lv_some (by rw [ht, Int.toNat_natCast]; exact h2))⟩
                      have := lv_true (hC x HXm.out HUse.out (by rw [HK.out, ← e]; exact K.out.2.1) s hsm h)
                      rw [ht, Int.toNat_natCast] at this
                      exact this
                    clear hB hs hc2 e2 hsm hix
                    obtain ⟨sk, ss, so⟩ := s
                    dsimp only at *
                    cases k1 : (sk == 1) with
                    | false =>
                      have HE := Lib.hid (HNo.out (by simpa using k1))
                      clear HNo HSy
                      go_wp2
                      go_roundw
                      case rel => exact ⟨m + 1, by go_num, by omega, M', Lib.hid ⟨K.out.1, K.out.2.1, HE.out⟩⟩
                      case measure => simp [intOf]; omega
                    | true =>
                      obtain ⟨t, rfl, htn, hrt, hlt', hE⟩ := HSy.out (by simpa using k1)
                      have HP := Lib.hid (K.out.1.1.set t hrt)
                      have HP2 := Lib.hid (K.out.1.2.other (a := ⟨w.heap.size + 1, t, none⟩) (by show wb.heap.size ≠ w.heap.size + 1; omega) (.bool true))
                      have HE := Lib.hid (And.intro hlt' hE)
                      have f1 := K.out.1.1.b1.frozen t
                      have q2 := K.out.1.1.b1.cell t
                      rw [bools_at M' t (by rw [K.out.1.1.len]; exact htn)] at q2
                      have l9 := K.out.1.1.b1.lt
                      have z8 : (t : Int) < (n : Int) := by have := N1.out; omega
                      have z9 : (0 : Int) ≤ (t : Int) := by omega
                      clear HNo HSy hrt hlt' hE
                      go_wp2
                      go_roundw
                      case rel => exact ⟨m + 1, by go_num, by omega, M'.set t true, Lib.hid ⟨⟨HP.out, HP2.out⟩, HE.out.1, HE.out.2⟩⟩
                      case measure => simp [intOf]; omega
                  · obtain rfl : nr = m := by omega
                    have HD : Hid (RJ g false L w wr M' ∧ RS g.sorts.length r (ClosedU g false L M0) M0 (PQ g false L M0 (j + 1)) M') := Lib.hid ⟨K.out.1.1, K.out.2.2.imp fun _ hq => by rw [N3.out] at hq; exact hq.done HX.out⟩
                    clear K
                    go_wp2
                    go_roundw
                    case rel => exact ⟨j + 1, by go_num, by omega, M', HD⟩
                    case measure => simp [intOf]; omega
              | true =>
                have HUno : Hid (okP L x = false → useB true L x = false) := Lib.hid fun h => by rw [HU.out, k0, h]; rfl
                have HUyes : Hid (okP L x = true → useB true L x = true) := Lib.hid fun h => by rw [HU.out, k0, h]; rfl
                generalize okP L x = c at *
                clear K
                go_wp2_with fail
                with_reducible refine HC.out.mono ?_
                rintro e w4 ⟨rfl, hB4⟩
                have K3 : Hid (RJ g true L w w4 M ∧ Blk w4 wr.heap.size 46 #[.int .i64 k, .slice x.ra nr x.rc, .string x.cons, .int .i64 x.role, .bool x.prefer, .bool x.avoid, .int .i64 x.frm]) := Lib.hid ⟨HA.out.1.below hB4, HA.out.2.below hB4 HA.out.2.lt⟩
                clear hB4 HA HC c0 c1 c2 c3 c4 x0 x1 x2 x3 x4 x5 x6 q1
                cases c with
                | false =>
                  have HE := Lib.hid (HSkip.out (.inl (HUno.out rfl)))
                  clear HSkip HQ0 HR
                  go_wp2
                  go_roundw
                  case rel => exact ⟨j + 1, by go_num, by omega, M, Lib.hid ⟨K3.out.1, HE.out⟩⟩
                  case measure => simp [intOf]; omega
                | true =>
                  have HUse := Lib.hid (HUyes.out rfl)
                  clear HSkip
                  go_wp2
                  obtain ⟨wb, rfl⟩ : ∃ wb : World, wb = wr := ⟨_, rfl⟩
                  go_loopw [10] (fun vm wq => ∃ m : Nat, vm = .int .i64 m ∧ m ≤ nr ∧ ∃ M', Hid ((RJ g true L w wq M' ∧ Blk wq wb.heap.size 46 #[.int .i64 k, .slice x.ra nr x.rc, .string x.cons, .int .i64 x.role, .bool x.prefer, .bool x.avoid, .int .i64 x.frm]) ∧ lv M' (k : Int) = true ∧ RS g.sorts.length r (ClosedU g true L M0) M0 (PX g true L M0 j x m) M')) (fun vm _ => nr - (intOf vm).toNat)
                  case atStart => exact ⟨0, rfl, Nat.zero_le _, M, Lib.hid ⟨K3.out, HV.out.symm, HQ0.out⟩⟩
                  case round =>
                    clear K3 HQ0 HV
                    skip
                    obtain ⟨m, rfl, hmn, M', K⟩ := hrel
                    obtain ⟨p0, p1, p2, p3, p4, p5, p6⟩ := cells7g K.out.1.2
                    have lp := K.out.1.2.lt
                    by_cases hlm : m < nr
                    · obtain ⟨s, hs⟩ : ∃ s, x.right[m]? = some s := ⟨_, List.getElem?_eq_getElem (by rw [← N3.out]; exact hlm)⟩
                      obtain ⟨_, _, _, _, _, hix⟩ := HG.out.prods j x HX.out
                      obtain ⟨b2, o2, e2, hb2, hc2, _⟩ := hix m s hs
                      have hB := K.out.1.1.b
                      obtain ⟨y0, y1, y2, y3, y4, y5⟩ := Sym_at (hc2.below hB hb2)
                      have hb2' := Nat.lt_of_lt_of_le hb2 hB.size
                      have z6 : (m : Int) < (nr : Int) := by omega
                      have z7 : (0 : Int) ≤ (m : Int) := by omega
                      rw [e2] at p1
                      have hsm := List.mem_of_getElem? hs
                      have HNo : Hid (s.kind ≠ 1 → RS g.sorts.length r (ClosedU g true L M0) M0 (PX g true L M0 j x (m + 1)) M') := Lib.hid fun h => K.out.2.2.imp fun _ hq => hq.skip hs fun h2 => absurd h2 h
                      have HSy : Hid (s.kind = 1 → ∃ t : Nat, s.sort = t ∧ t < g.sorts.length ∧ RU g true L g.start.toNat t ∧ lv (M'.set t true) (k : Int) = true ∧ RS g.sorts.length r (ClosedU g true L M0) M0 (PX g true L M0 j x (m + 1)) (M'.set t true)) := Lib.hid fun h => by
                        obtain ⟨t, ht, htn⟩ := HM.out.sym x HXm.out s hsm h
                        have hkl := lv_true K.out.2.1
                        rw [Int.toNat_natCast] at hkl
                        refine ⟨t, ht, htn, (K.out.1.1.sound k hkl).step ⟨x, HXm.out, HK.out, HUse.out, s, hsm, h, ht⟩, lv_set K.out.2.1, K.out.2.2.set (by rw [K.out.1.1.len]; exact htn) (fun e hC => ?_) (fun hq h2 => hq.skip hs fun _ => lv_some (by rw [ht, Int.toNat_natCast]; exact h2))⟩
                        have := lv_true (hC x HXm.out HUse.out (by rw [HK.out, ← e]; exact K.out.2.1) s hsm h)
                        rw [ht, Int.toNat_natCast] at this
                        exact this
                      clear hB hs hc2 e2 hsm hix
                      obtain ⟨sk, ss, so⟩ := s
                      dsimp only at *
                      cases k1 : (sk == 1) with
                      | false =>
                        have HE := Lib.hid (HNo.out (by simpa using k1))
                        clear HNo HSy
                        go_wp2
                        go_roundw
                        case rel => exact ⟨m + 1, by go_num, by omega, M', Lib.hid ⟨K.out.1, K.out.2.1, HE.out⟩⟩
                        case measure => simp [intOf]; omega
                      | true =>
                        obtain ⟨t, rfl, htn, hrt, hlt', hE⟩ := HSy.out (by simpa using k1)
                        have HP := Lib.hid (K.out.1.1.set t hrt)
                        have HP2 := Lib.hid (K.out.1.2.other (a := ⟨w.heap.size + 1, t, none⟩) (by show wb.heap.size ≠ w.heap.size + 1; omega) (.bool true))
                        have HE := Lib.hid (And.intro hlt' hE)
                        have f1 := K.out.1.1.b1.frozen t
                        have q2 := K.out.1.1.b1.cell t
                        rw [bools_at M' t (by rw [K.out.1.1.len]; exact htn)] at q2
                        have l9 := K.out.1.1.b1.lt
                        have z8 : (t : Int) < (n : Int) := by have := N1.out; omega
                        have z9 : (0 : Int) ≤ (t : Int) := by omega
                        clear HNo HSy hrt hlt' hE
                        go_wp2
                        go_roundw
                        case rel => exact ⟨m + 1, by go_num, by omega, M'.set t true, Lib.hid ⟨⟨HP.out, HP2.out⟩, HE.out.1, HE.out.2⟩⟩
                        case measure => simp [intOf]; omega
                    · obtain rfl : nr = m := by omega
                      have HD : Hid (RJ g true L w wr M' ∧ RS g.sorts.length r (ClosedU g true L M0) M0 (PQ g true L M0 (j + 1)) M') := Lib.hid ⟨K.out.1.1, K.out.2.2.imp fun _ hq => by rw [N3.out] at hq; exact hq.done HX.out⟩
                      clear K
                      go_wp2
                      go_roundw
                      case rel => exact ⟨j + 1, by go_num, by omega, M', HD⟩
                      case measure => simp [intOf]; omega
        · obtain rfl : np = j := by omega
          have HD : Hid (RJ g u L w wr M ∧ (ClosedU g u L M ∨ r + 1 + M.count false ≤ g.sorts.length)) := Lib.hid ⟨K.out.1, by
            have h := K.out.2
            rw [N2.out] at h
            rcases h with ⟨rfl, h, _⟩ | h
            · exact .inl h.closed
            · exact .inr h⟩
          clear K
          go_wp2
          go_roundw
          case rel => exact ⟨r + 1, by go_num, by omega, M, HD⟩
          case measure => simp [intOf]; omega
    · obtain rfl : n = r := by omega
      have HR := Lib.hid (HEnd.out L wr M0 K.out.1 (by have := K.out.2; rw [N1.out] at this; exact this))
      have hl := K.out.1.len
      rw [← N1.out] at hl
      have Hl := Lib.hid hl
      have HKb := Lib.hid K.out.1
      clear K hl
      go_wp2
      go_ret
      exact ⟨L, M0, HLv.out, HR.out, by first | rw [Hl.out, HR3.out] | rw [Hl.out]; rfl, HKb.out.b1, HKb.out.b⟩
end Go.Proofs.Ytiihdbchchnncaa
end
section
namespace Go.Vals
open Go
section
variable {P : Program} {ops : Array Oper} {N : World → World → Prop} {F : Array Value} {loose : List Tmp} {p : Tmp → Value → World → Prop} {S : World → Prop} {ds : List Deferred} {o : Oper} {l : List Oper}
/-- What is known by p alone goes from one slot to another. -/
theorem Each.copyLoose (d t : Tmp) (hd : o.dst = some d) (hm : loose.contains d = true) (hl : (o.looksAt ops).contains t = true) (hlo : loose.contains t = true)
    (hw : ∀ T, Region.wanted o (yielded ops T) = true) (hN : ∀ w, N w w)
    (he : ∀ w a, (execOp (Act.eval a) o).run P w = .ok (.value (a.eval (.tmp t))) w) (hc : ∀ w x, p t x w → p d x w)
    (hr : Each P ops N (Kn F loose p) S ds l) : Each P ops N (Kn F loose p) S ds (o :: l) := by
  refine ⟨fun a w _ hS hk => .inr ⟨hw _, ?_⟩, hr⟩
  obtain ⟨x, hx, hK⟩ := hk t (by simpa using hl)
  have hp : p t x w := by
    rcases hK with ⟨_, h⟩ | ⟨h, _⟩
    · exact h
    · exact absurd (by simpa using hlo) h
  rw [he, show a.eval (.tmp t) = x by simp [Act.eval, hx]]
  exact ⟨hN w, fun d' hd' => by rw [hd] at hd'; cases hd'; exact .inl ⟨by simpa using hm, hc _ _ hp⟩⟩
end
end Go.Vals
namespace Go.Proofs.Ytiihdbchchnncaa
open Go Go.RowKit Go.Vals

theorem no11_of {g : GramM} (h : checkB g = true) : ∀ x, x ∈ g.prods → x.role = 11 → ∀ s, s ∈ x.right → s.kind ≠ 1 := by
  unfold checkB prodsB at h
  simp only [Bool.and_eq_true, decide_eq_true_eq, List.all_eq_true] at h
  obtain ⟨_, _, ⟨_, h7⟩, _⟩ := h
  intro x hx h11 s hs hk
  have := h7 x hx
  unfold prodB at this
  simp only [Bool.and_eq_true, decide_eq_true_eq, List.all_eq_true] at this
  have hr := this.2.2.2.1
  unfold roleB at hr
  rw [h11] at hr
  have hf : sortsB (fun _ => false) x = false := List.all_eq_false.2 ⟨s, hs, by simp [sortB, hk]⟩
  rw [if_neg (by decide), if_neg (by decide), if_neg (by decide), if_pos ⟨rfl, hf⟩] at hr
  cases hr
theorem all_live {g : GramM} (hm : MayB g) {L : List Bool} (hL : L.length = g.sorts.length) (h : ∀ (j : Nat) (b : Bool), L[j]? = some b → (!b) = false) : ∀ x, x ∈ g.prods → sortsB (lv L) x = true := fun x hx => by
  refine List.all_eq_true.2 fun s hs => ?_
  unfold sortB
  cases k : (s.kind == 1) with
  | false => rfl
  | true =>
    obtain ⟨t, ht, htn⟩ := hm.sym x hx s hs (by simpa using k)
    have e : L[t]? = some (L[t]'(by rw [hL]; exact htn)) := List.getElem?_eq_getElem _
    refine lv_some ?_
    rw [ht, Int.toNat_natCast, e]
    have := h t _ e
    simpa using this

/-- What the slots hold of the two lists. -/
def pW (g : GramM) (n : Nat) (t : Tmp) (v : Value) (W : World) : Prop :=
  if t = 12 ∨ t = 4 then ∃ A L, v = .slice (some ⟨A, 0, none⟩) n n ∧ Blk W A 4 (bools L) ∧ Live g L
  else ∃ A L R, v = .slice (some ⟨A, 0, none⟩) n n ∧ Blk W A 4 (bools R) ∧ Live g L ∧ ReachU g false L R
theorem pW.below {g : GramM} {n : Nat} {t : Tmp} {v : Value} {W W' : World} (h : pW g n t v W) (hB : Below W.heap.size W W') : pW g n t v W' := by
  unfold pW at *
  split at h
  · next e => rw [if_pos e]; obtain ⟨A, L, h1, h2, h3⟩ := h; exact ⟨A, L, h1, h2.below hB h2.lt, h3⟩
  · next e => rw [if_neg e]; obtain ⟨A, L, R, h1, h2, h3⟩ := h; exact ⟨A, L, R, h1, h2.below hB h2.lt, h3⟩

set_option maxRecDepth 100000 in
set_option maxHeartbeats 2000000 in
theorem rwell_any (g : GramM) (w : World) (hg : GIn w g) (hf : FitG g) : Calls Try.prog 14 #[gramV g] w fun e w' => ∃ r, WellP g r ∧ e = .returned (.tuple #[.int .i64 r.1, .int .i64 r.2]) ∧ Below w.heap.size w w' := by
  have hB1 : Below w.heap.size w (w.alloc (.cells (gramC g) 27)) := (Below.refl _ _).alloc (Nat.le_refl _) _
  have HCk := Lib.hid (rcheck_any g _ (hg.below hB1) hf)
  have HG := Lib.hid hg
  have HB := Lib.hid hB1
  have HK := Lib.hid (Blk.new w 27 (gramC g))
  have HFit := Lib.hid hf
  have HRes : Hid (∀ r w', WellP g r → Below w.heap.size w w' → ∃ r', WellP g r' ∧ Ending.returned (.tuple #[.int .i64 r.1, .int .i64 r.2]) = Ending.returned (.tuple #[.int .i64 r'.1, .int .i64 r'.2]) ∧ Below w.heap.size w w') := Lib.hid (fun r w' h h2 => ⟨r, h, rfl, h2⟩)
  clear hg hf hB1
  cases hq : checkB g with
  | false =>
    have HP : Hid (WellP g (160, 0)) := Lib.hid (by unfold WellP; rw [hq]; rfl)
    rw [hq] at HCk
    clear hq
    unfold gramV gramC at *
    go_enter Try.func14, Try.ntmps14
    go_wp2_with fail
    refine HCk.out.mono ?_
    rintro e w3 ⟨rfl, hB3⟩
    have HF := Lib.hid (HRes.out _ w3 HP.out (HB.out.trans (hB3.mono HB.out.size)))
    clear hB3
    dsimp only at HF
    have he : errI false = 160 := rfl
    rw [he]
    clear he
    go_wp2
    go_ret2
    exact HF.out
  | true =>
    have hm := mayB_of hq
    have HM := Lib.hid hm
    have H11 := Lib.hid (no11_of hq)
    have HPr := Lib.hid (fun W (hW : Below w.heap.size w W) => rproductive_any g hm HFit.out.fit W (HG.out.below hW))
    have HRe := Lib.hid (fun W (hW : Below w.heap.size w W) => rreached_any g hm HFit.out.fit false W (HG.out.below hW))
    have HP1 : Hid (∀ L, Live g L → 0 ≤ deadI L → WellP g (161, deadI L)) := Lib.hid (fun L h1 h2 => by unfold WellP; rw [hq]; exact ⟨L, h1, .inl ⟨h2, rfl⟩⟩)
    have HP2 : Hid (∀ L R, Live g L → ReachL g L R → deadI L < 0 → 0 ≤ deadI R → WellP g (162, deadI R)) := Lib.hid (fun L R h1 h2 h3 h4 => by unfold WellP; rw [hq]; exact ⟨L, h1, .inr ⟨h3, R, h2, by rw [if_pos h4]⟩⟩)
    have HP3 : Hid (∀ L R, Live g L → ReachL g L R → deadI L < 0 → deadI R < 0 → WellP g (0, 0)) := Lib.hid (fun L R h1 h2 h3 h4 => by unfold WellP; rw [hq]; exact ⟨L, h1, .inr ⟨h3, R, h2, by rw [if_neg (by omega)]⟩⟩)
    rw [hq] at HCk
    have hl0 := HK.out.lt
    have hn1 := hm.sorts2
    clear hq hm
    unfold gramV at *
    unfold gramC at HCk HK HB hl0 ⊢
    have he : errI true = 0 := rfl
    rw [he] at HCk
    clear he
    go_enter Try.func14, Try.ntmps14
    go_wp2_with fail
    refine HCk.out.mono ?_
    rintro e w3 ⟨rfl, hB3⟩
    have HB3 := Lib.hid (HB.out.trans (hB3.mono HB.out.size))
    have HK3 := Lib.hid (HK.out.below hB3 HK.out.lt)
    have HKc : Hid (∀ W, Below w3.heap.size w3 W → CellsAt W w.heap.size 0 (gramC g)) := Lib.hid (fun W hW => by
      have b0 := HK3.out.below hW HK3.out.lt
      exact fun j v hv => by rw [Nat.zero_add, b0.cell j]; exact hv)
    have l3 := HK3.out.lt
    clear hB3
    go_wp2_with fail
    have H38 : Hid (∀ W, Below w3.heap.size w3 W → Calls Try.prog 38 #[gramV g] W fun e w' => ∃ v, e = .returned v ∧ Below W.heap.size W w' ∧ pW g g.sorts.length 12 v w') := Lib.hid fun W hW => by
      refine (HPr.out W (HB3.out.trans (hW.mono HB3.out.size))).mono ?_
      rintro e w4 ⟨L, hL, rfl, hb, hB⟩
      refine ⟨_, rfl, hB, ?_⟩
      unfold pW
      rw [if_pos (by decide), hL.1]
      exact ⟨_, L, rfl, hb, hL⟩
    have H39 : Hid (∀ W, Below w3.heap.size w3 W → Calls Try.prog 39 #[gramV g, .bool false] W fun e w' => ∃ v, e = .returned v ∧ Below W.heap.size W w' ∧ pW g g.sorts.length 14 v w') := Lib.hid fun W hW => by
      refine (HRe.out W (HB3.out.trans (hW.mono HB3.out.size))).mono ?_
      rintro e w4 ⟨L, R, hL, hR, rfl, hb, hB⟩
      refine ⟨_, rfl, hB, ?_⟩
      unfold pW
      rw [if_neg (by decide), hR.1]
      exact ⟨_, L, R, rfl, hb, hL, hR⟩
    have hN : ∀ W : World, Below W.heap.size W W := fun W => Below.refl _ W
    refine wp_region_vals (N := fun W W' => Below W.heap.size W W') (S := fun W => Below w3.heap.size w3 W) [12, 14, 4, 5] (fun t v W => pW g g.sorts.length t v W)
      [gramV g, undef, gramV g, undef, undef, undef]
      #[gramV g, .pointer (some ⟨w.heap.size, 0, none⟩), .int .i64 0, .int .i64 0, undef, undef, undef, undef, gramV g, .int .i64 0, .bool false, gramV g, undef, gramV g, undef, undef, undef, undef, undef, undef, undef, undef, undef, undef, undef, undef, undef, undef, undef, undef, undef, undef, undef, undef, undef, undef, undef, undef, undef]
      rfl (by kernel_rfl) (by kernel_rfl) (by kernel_rfl) (by kernel_rfl) hN (Below.refl _ w3).drew (fun W W' h hB => h.trans (hB.mono h.size)) (fun _ _ v W W' h hB => h.below hB) ?_ ?_
    · refine Each.val 11 (gramV g) (by kernel_rfl) (by kernel_rfl) (by kernel_rfl) hN (fun W hS _ => ld27 rfl (by kernel_rfl) (HKc.out W hS)) ?_
      refine Each.callMakes 12 38 #[gramV g] (by kernel_rfl) (by kernel_rfl) (by kernel_rfl) (by kernel_rfl) (by kernel_rfl) (fun _ _ => by kernel_rfl) (fun W hS => H38.out W hS) ?_
      refine Each.val 13 (gramV g) (by kernel_rfl) (by kernel_rfl) (by kernel_rfl) hN (fun W hS _ => ld27 rfl (by kernel_rfl) (HKc.out W hS)) ?_
      refine Each.callMakes 14 39 #[gramV g, .bool false] (by kernel_rfl) (by kernel_rfl) (by kernel_rfl) (by kernel_rfl) (by kernel_rfl) (fun _ _ => by kernel_rfl) (fun W hS => H39.out W hS) ?_
      refine Each.copyLoose 4 12 (by kernel_rfl) (by kernel_rfl) (by kernel_rfl) (by kernel_rfl) (fun _ => by kernel_rfl) hN (fun _ _ => by kernel_rfl) (fun W x h => by unfold pW at h ⊢; rw [if_pos (by decide)] at h ⊢; exact h) ?_
      refine Each.copyLoose 5 14 (by kernel_rfl) (by kernel_rfl) (by kernel_rfl) (by kernel_rfl) (fun _ => by kernel_rfl) hN (fun _ _ => by kernel_rfl) (fun W x h => by unfold pW at h ⊢; rw [if_neg (by decide)] at h ⊢; exact h) ?_
      exact trivial
    · intro T w4 hT hS hk
      have hT1 := loose_eq hT hk
      obtain ⟨v4, hv4, hk4⟩ := hk 4 (show (4 : Nat) < 39 by omega)
      obtain ⟨v5, hv5, hk5⟩ := hk 5 (show (5 : Nat) < 39 by omega)
      have hg4 : T.getD 4 undef = v4 := by rw [Array.getD_eq_getD_getElem?, hv4]; rfl
      have hg5 : T.getD 5 undef = v5 := by rw [Array.getD_eq_getD_getElem?, hv5]; rfl
      have hp4 : pW g g.sorts.length 4 v4 w4 := by
        rcases hk4 with ⟨_, h⟩ | ⟨h, _⟩
        · exact h
        · exact absurd (by decide) h
      have hp5 : pW g g.sorts.length 5 v5 w4 := by
        rcases hk5 with ⟨_, h⟩ | ⟨h, _⟩
        · exact h
        · exact absurd (by decide) h
      obtain ⟨v1, v2, hTT⟩ : ∃ v1 v2 : Value, T = #[gramV g, .pointer (some ⟨w.heap.size, 0, none⟩), .int .i64 0, .int .i64 0, v4, v5, undef, undef, gramV g, .int .i64 0, .bool false, gramV g, v1, gramV g, v2, undef, undef, undef, undef, undef, undef, undef, undef, undef, undef, undef, undef, undef, undef, undef, undef, undef, undef, undef, undef, undef, undef, undef, undef] := ⟨T.getD 12 undef, T.getD 14 undef, by rw [← hg4, ← hg5]; exact hT1⟩
      clear hT1 hk hT hv4 hv5 hk4 hk5 hg4 hg5
      subst hTT
      have HB4 := Lib.hid (HB3.out.trans (hS.mono HB3.out.size))
      unfold pW at hp4 hp5
      rw [if_pos (by decide)] at hp4
      rw [if_neg (by decide)] at hp5
      obtain ⟨A, L, rfl, hbA, hLv⟩ := hp4
      obtain ⟨B, L', R, rfl, hbR, hLv', hRc⟩ := hp5
      obtain rfl := hLv.unique hLv'
      have HA := Lib.hid hbA
      have HR := Lib.hid hbR
      have HLv := Lib.hid hLv
      have HRc := Lib.hid hRc
      have hlA := hbA.lt
      have hlR := hbR.lt
      clear hS hN H38 H39 HKc HK3 HPr HRe hbA hbR hLv hLv' hRc HCk HK HB3 HB l3 hl0
      unfold gramV gramC
      obtain ⟨n, hn⟩ : ∃ n, n = g.sorts.length := ⟨_, rfl⟩
      have N1 := Lib.hid hn
      rw [← hn] at hn1 ⊢
      clear hn
      go_wp2
      go_loop [6] (fun i => ∃ (m : Nat), i = .int .i64 m ∧ m ≤ n ∧ Hid (∀ (j : Nat) y, j < m → L[j]? = some y → (!y) = false)) (fun i => n - (intOf i).toNat)
      case atStart => exact ⟨0, rfl, Nat.zero_le _, Lib.hid (fun j y hj => by omega)⟩
      case round =>
        obtain ⟨m, rfl, hmn, hS⟩ := hrel
        by_cases hlt : m < n
        · have hmL : m < L.length := by rw [HLv.out.1, ← N1.out]; exact hlt
          have q1 := HA.out.cell m
          rw [bools_at L m hmL] at q1
          have z1 : (m : Int) < (n : Int) := by omega
          have z0 : (0 : Int) ≤ (m : Int) := by omega
          obtain ⟨v, hv⟩ : ∃ v, v = lv L (m : Int) := ⟨_, rfl⟩
          rw [← hv] at q1
          have hx : L[m]? = some v := by
            rw [hv]; unfold lv; rw [List.getD_eq_getElem?_getD, Int.toNat_natCast, List.getElem?_eq_getElem hmL]; rfl
          have HX := Lib.hid hx
          clear hv hx hmL
          cases v with
          | false =>
            have HT : Hid (deadI L = m) := Lib.hid (firstI_hit (fun b => !b) L m false HX.out rfl hS.out)
            have HF := Lib.hid (HRes.out _ w4 (HP1.out L HLv.out (by rw [HT.out]; omega)) HB4.out)
            rw [HT.out] at HF
            dsimp only at HF
            clear hS HT HX
            go_wp2
            go_ret2
            obtain ⟨r', h1, h2, h3⟩ := HF.out
            exact ⟨r'.1, r'.2, h1, h2, h3⟩
          | true =>
            have HQ : Hid (∀ (j : Nat) y, j < m + 1 → L[j]? = some y → (!y) = false) := Lib.hid (fun j y hj hy => by
              by_cases e : j = m
              · subst e; rw [HX.out] at hy; cases hy; rfl
              · exact hS.out j y (by omega) hy)
            clear hS HX
            go_wp2
            go_round
            case rel => exact ⟨m + 1, by go_num, by omega, HQ⟩
            case measure => simp [intOf]; omega
        · obtain rfl : n = m := by omega
          have HAll : Hid (∀ (j : Nat) y, L[j]? = some y → (!y) = false) := Lib.hid fun j y hy => hS.out j y (by have := (List.getElem?_eq_some_iff.1 hy).1; rw [HLv.out.1, ← N1.out] at this; exact this) hy
          have HD : Hid (deadI L < 0) := Lib.hid (by unfold deadI; rw [firstI_none (fun b => !b) L HAll.out]; decide)
          have HRL : Hid (ReachL g L R) := Lib.hid ((reachU_iff H11.out (.inr (all_live HM.out HLv.out.1 HAll.out))).1 HRc.out)
          clear hS HAll HP1 HRc
          go_wp2
          go_loop [7] (fun i => ∃ (m : Nat), i = .int .i64 m ∧ m ≤ n ∧ Hid (∀ (j : Nat) y, j < m → R[j]? = some y → (!y) = false)) (fun i => n - (intOf i).toNat)
          case atStart => exact ⟨0, rfl, Nat.zero_le _, Lib.hid (fun j y hj => by omega)⟩
          case round =>
            obtain ⟨m, rfl, hmn2, hS⟩ := hrel
            by_cases hlt2 : m < n
            · have hmL : m < R.length := by rw [HRL.out.1, ← N1.out]; exact hlt2
              have q1 := HR.out.cell m
              rw [bools_at R m hmL] at q1
              have z1 : (m : Int) < (n : Int) := by omega
              have z0 : (0 : Int) ≤ (m : Int) := by omega
              obtain ⟨v, hv⟩ : ∃ v, v = lv R (m : Int) := ⟨_, rfl⟩
              rw [← hv] at q1
              have hx : R[m]? = some v := by
                rw [hv]; unfold lv; rw [List.getD_eq_getElem?_getD, Int.toNat_natCast, List.getElem?_eq_getElem hmL]; rfl
              have HX := Lib.hid hx
              clear hv hx hmL
              cases v with
              | false =>
                have HT : Hid (deadI R = m) := Lib.hid (firstI_hit (fun b => !b) R m false HX.out rfl hS.out)
                have HF := Lib.hid (HRes.out _ w4 (HP2.out L R HLv.out HRL.out HD.out (by rw [HT.out]; omega)) HB4.out)
                rw [HT.out] at HF
                dsimp only at HF
                clear hS HT HX
                go_wp2
                go_ret2
                obtain ⟨r', h1, h2, h3⟩ := HF.out
                exact ⟨r'.1, r'.2, h1, h2, h3⟩
              | true =>
                have HQ : Hid (∀ (j : Nat) y, j < m + 1 → R[j]? = some y → (!y) = false) := Lib.hid (fun j y hj hy => by
                  by_cases e : j = m
                  · subst e; rw [HX.out] at hy; cases hy; rfl
                  · exact hS.out j y (by omega) hy)
                clear hS HX
                go_wp2
                go_round
                case rel => exact ⟨m + 1, by go_num, by omega, HQ⟩
                case measure => simp [intOf]; omega
            · obtain rfl : n = m := by omega
              have HD2 : Hid (deadI R < 0) := Lib.hid (by unfold deadI; rw [firstI_none (fun b => !b) R (fun j y hy => hS.out j y (by have := (List.getElem?_eq_some_iff.1 hy).1; rw [HRL.out.1, ← N1.out] at this; exact this) hy)]; decide)
              have HF := Lib.hid (HRes.out _ w4 (HP3.out L R HLv.out HRL.out HD.out HD2.out) HB4.out)
              dsimp only at HF
              clear hS
              go_wp2
              go_ret2
              obtain ⟨r', h1, h2, h3⟩ := HF.out
              exact ⟨r'.1, r'.2, h1, h2, h3⟩
end Go.Proofs.Ytiihdbchchnncaa
end
section
namespace Go.Proofs.Ytiihdbchchnncaa
open Go Go.RowKit

theorem CopyOf.len {g m : GramM} (h : CopyOf g m) : m.prods.length = g.prods.length := by
  have := congrArg List.length h.prods
  rwa [List.length_map, List.length_map] at this
theorem CopyOf.at {g m : GramM} (h : CopyOf g m) (i : Nat) : (m.prods[i]?).map bareP = (g.prods[i]?).map bareP := by
  have h1 : (m.prods.map bareP)[i]? = (g.prods.map bareP)[i]? := by rw [h.prods]
  rwa [List.getElem?_map, List.getElem?_map] at h1
theorem CopyOf.back {g m : GramM} (h : CopyOf g m) : ∀ x, x ∈ g.prods → ∃ y, y ∈ m.prods ∧ bareP y = bareP x := fun x hx => by
  have : bareP x ∈ m.prods.map bareP := by rw [h.prods]; exact List.mem_map_of_mem hx
  obtain ⟨y, hy, e⟩ := List.mem_map.1 this
  exact ⟨y, hy, e⟩
theorem CopyOf.forth {g m : GramM} (h : CopyOf g m) : ∀ x, x ∈ m.prods → ∃ y, y ∈ g.prods ∧ bareP y = bareP x := fun x hx => by
  have : bareP x ∈ g.prods.map bareP := by rw [← h.prods]; exact List.mem_map_of_mem hx
  obtain ⟨y, hy, e⟩ := List.mem_map.1 this
  exact ⟨y, hy, e⟩
theorem bare_left {x y : ProdM} (h : bareP y = bareP x) : y.left = x.left := by have := congrArg ProdM.left h; exact this
theorem bare_right {x y : ProdM} (h : bareP y = bareP x) : y.right = x.right := by have := congrArg ProdM.right h; exact this
theorem bare_role {x y : ProdM} (h : bareP y = bareP x) : y.role = x.role := by have := congrArg ProdM.role h; exact this
theorem all_bare {f : ProdM → Bool} (hf : ∀ x, f x = f (bareP x)) (l : List ProdM) : l.all f = (l.map bareP).all f := by
  rw [List.all_map]
  congr 1
  funext x
  exact hf x
theorem checkB_copy {g m : GramM} (h : CopyOf g m) : checkB m = checkB g := by
  have e1 : sortsB' m = sortsB' g := by unfold sortsB'; rw [h.sorts]
  have e2 : startB m = startB g := by unfold startB; rw [h.sorts, h.start]
  have e3 : prodsB m = prodsB g := by
    unfold prodsB
    rw [h.sorts, h.len, all_bare (fun _ => rfl) m.prods, all_bare (fun _ => rfl) g.prods, h.prods]
  have e4 : forbidsB m = forbidsB g := by
    unfold forbidsB
    rw [h.forbid]
    congr 2
    funext f
    unfold forbidB
    rw [h.len]
    congr 2
    have a := h.at f.parent.toNat
    have b := h.at f.child.toNat
    cases p1 : m.prods[f.parent.toNat]? <;> cases p2 : g.prods[f.parent.toNat]? <;> rw [p1, p2] at a <;> simp at a
    cases c1 : m.prods[f.child.toNat]? <;> cases c2 : g.prods[f.child.toNat]? <;> rw [c1, c2] at b <;> simp at b
    all_goals first | rfl | skip
    next p q x y =>
      show standB p f.at_ x = standB q f.at_ y
      have e1 : standB p f.at_ x = standB (bareP p) f.at_ (bareP x) := rfl
      have e2 : standB q f.at_ y = standB (bareP q) f.at_ (bareP y) := rfl
      rw [e1, e2, a, b]
  have e5 : followsB m = followsB g := by unfold followsB; rw [h.follow, h.sorts]
  unfold checkB
  rw [e1, e2, e3, e4, e5]
theorem pv_copy {g m : GramM} (h : ∀ x, x ∈ g.prods → ∃ y, y ∈ m.prods ∧ bareP y = bareP x) {k : Nat} (hk : PV g k) : PV m k := by
  induction hk with
  | mk x hx hr _ ih =>
    obtain ⟨y, hy, e⟩ := h x hx
    have hl : x.left = y.left := (bare_left e).symm
    have hro : y.role = x.role := bare_role e
    have hri : y.right = x.right := bare_right e
    rw [hl]
    exact .mk y hy (by rw [hro]; exact hr) (fun s hs hk => ih s (by rw [← hri]; exact hs) hk)
theorem rf_copy {g m : GramM} {L : List Bool} (h : ∀ x, x ∈ g.prods → ∃ y, y ∈ m.prods ∧ bareP y = bareP x) {j k : Nat} (hk : RF g L j k) : RF m L j k := by
  induction hk with
  | refl => exact .refl
  | step _ e ih =>
    obtain ⟨x, hx, hl, hs, s, hsx, hk1, ht⟩ := e
    obtain ⟨y, hy, e⟩ := h x hx
    have hly : y.left = x.left := bare_left e
    have hri : y.right = x.right := bare_right e
    exact ih.step ⟨y, hy, by rw [hly]; exact hl, by unfold sortsB at hs ⊢; rw [hri]; exact hs, s, by rw [hri]; exact hsx, hk1, ht⟩
theorem live_copy {g m : GramM} (h : CopyOf g m) {L : List Bool} (hL : Live m L) : Live g L :=
  ⟨by rw [hL.1, h.sorts], fun k => ⟨fun hk => pv_copy h.forth ((hL.2 k).1 hk), fun hk => (hL.2 k).2 (pv_copy h.back hk)⟩⟩
theorem reachL_copy {g m : GramM} (h : CopyOf g m) {L R : List Bool} (hR : ReachL m L R) : ReachL g L R :=
  ⟨by rw [hR.1, h.sorts], fun k => ⟨fun hk => by rw [← h.start]; exact rf_copy h.forth ((hR.2 k).1 hk), fun hk => (hR.2 k).2 (by rw [h.start]; exact rf_copy h.back hk)⟩⟩
theorem wellP_copy {g m : GramM} (h : CopyOf g m) {r : Int × Int} (hr : WellP m r) : WellP g r := by
  unfold WellP at *
  rw [checkB_copy h] at hr
  split
  · next c =>
    rw [if_pos c] at hr
    obtain ⟨L, hL, hr⟩ := hr
    refine ⟨L, live_copy h hL, ?_⟩
    rcases hr with hr | ⟨h1, R, hR, h2⟩
    · exact .inl hr
    · exact .inr ⟨h1, R, reachL_copy h hR, h2⟩
  · next c => rw [if_neg c] at hr; exact hr
theorem wellP_unique {g : GramM} {r s : Int × Int} (hr : WellP g r) (hs : WellP g s) : r = s := by
  unfold WellP at *
  split at hr
  · next c =>
    rw [if_pos c] at hs
    obtain ⟨L, hL, hr⟩ := hr
    obtain ⟨L', hL', hs⟩ := hs
    obtain rfl := hL.unique hL'
    rcases hr with ⟨h1, rfl⟩ | ⟨h1, R, hR, rfl⟩ <;> rcases hs with ⟨h2, rfl⟩ | ⟨h2, R', hR', rfl⟩
    · rfl
    · omega
    · omega
    · obtain rfl := hR.unique hR'
      rfl
  · next c => rw [if_neg c] at hs; rw [hr, hs]
theorem ofK_copy {g m : GramM} (h : CopyOf g m) (n : Int) : ofK m.prods n = ofK g.prods n := by
  have key : ∀ l : List ProdM, ofK l n = ofK (l.map bareP) n := fun l => by
    unfold ofK
    rw [List.zipIdx_map, List.filter_map, List.map_map]
    rfl
  rw [key, key g.prods, h.prods]
theorem findN_copy {g m : GramM} (h : CopyOf g m) (name : ByteArray) : findN name m.sorts = findN name g.sorts := by rw [h.sorts]
end Go.Proofs.Ytiihdbchchnncaa
end
section
namespace Go.Proofs.Ytiihdbchchnncaa
open Go Go.RowKit

/-- What the law's blocks hold. -/
structure LK (g m : GramM) (w : World) (Bm : Nat) (W : World) : Prop where
  b0 : Blk W w.heap.size 27 (gramC g)
  b1 : Blk W Bm 27 (gramC m)
  bl : Below w.heap.size w W
  gg : GIn W g
  gm : GIn W m
theorem LK.below {g m : GramM} {w : World} {Bm : Nat} {W W' : World} (h : LK g m w Bm W) (hB : Below W.heap.size W W') : LK g m w Bm W' :=
  ⟨h.b0.below hB h.b0.lt, h.b1.below hB h.b1.lt, h.bl.trans (hB.mono h.bl.size), h.gg.below hB, h.gm.below hB⟩
/-- What the calls on the copy say. -/
structure LC (g m : GramM) (name : ByteArray) (n : Int) : Prop where
  well : ∀ W, GIn W m → Calls Try.prog 13 #[gramV m] W fun e w' => ∃ r, WellP g r ∧ e = .returned (.tuple #[.int .i64 r.1, .int .i64 r.2]) ∧ Below W.heap.size W w'
  check : ∀ W, GIn W m → Calls Try.prog 15 #[gramV m] W fun e w' => e = .returned (.int .i64 (errI (checkB g))) ∧ Below W.heap.size W w'
  find : ∀ W, GIn W m → Calls Try.prog 16 #[gramV m, .string name] W fun e w' => e = .returned (.tuple #[.int .i64 (((findN name g.sorts).getD 0 : Nat) : Int), .bool (findN name g.sorts).isSome]) ∧ Below W.heap.size W w'
  of : ∀ W, GIn W m → Calls Try.prog 17 #[gramV m, .int .i64 n] W fun e w' => OfP g n e w' ∧ Below W.heap.size W w'
  same : ∀ W, GIn W m → GIn W g → Calls Try.prog 18 #[gramV m, gramV g] W fun e w' => e = .returned (.bool true) ∧ Below W.heap.size W w'
theorem lc_of {g m : GramM} (h : CopyOf g m) (hf : FitG g) (name : ByteArray) (hn : name.size ≤ 1048576) (n : Int) : LC g m name n := by
  have fm := h.fit hf
  refine ⟨fun W hW => (well_any m W hW fm).mono fun e w' ⟨r, h1, h2⟩ => ⟨r, wellP_copy h h1, h2⟩, fun W hW => ?_, fun W hW => ?_, fun W hW => (of_any m n W hW fm).mono fun e w' ⟨h1, h2⟩ => ⟨?_, h2⟩, fun W hW hG => ?_⟩
  · have := check_any m W hW fm
    rwa [checkB_copy h] at this
  · have := find_call m name hn W hW fm.fit
    rwa [h.sorts] at this
  · unfold OfP at *
    rwa [checkB_copy h, h.sorts, ofK_copy h] at h1
  · have := rsame_any m g W hW hG fm.fit hf.fit
    rwa [sameG_comm, sameG_copy h] at this

/-- The names of a kept part are looked through. -/
theorem findN_drop (name : ByteArray) (l : List ByteArray) (k : Nat) (x : ByteArray) (hx : l[k]? = some x) :
    findN name (l.drop k) = if strEq x name then some 0 else (findN name (l.drop (k + 1))).map (· + 1) := by
  have hk := (List.getElem?_eq_some_iff.1 hx).1
  have e : l[k] = x := (List.getElem?_eq_some_iff.1 hx).2
  rw [List.drop_eq_getElem_cons hk, e]
  unfold findN
  rw [List.findIdx?_cons]

/-- What Of is to answer. -/
def weI (g : GramM) (n : Int) : Int := if checkB g then (if numB n g.sorts.length then 0 else 4) else 160
def wl (g : GramM) (n : Int) : List Int := if weI g n = 0 then ofK g.prods n else []
theorem ofP_w {g : GramM} {n : Int} {e : Ending} {w : World} (h : OfP g n e w) : ∃ a c, e = .returned (.tuple #[.slice a (wl g n).length c, .int .i64 (weI g n)]) ∧ RowInt w a (wl g n) := by
  unfold OfP at h
  unfold wl weI
  split at h
  · next h1 =>
    rw [if_pos h1]
    split at h
    · next h2 =>
      rw [if_pos h2, if_pos rfl]
      exact h
    · next h2 =>
      rw [if_neg h2, if_neg (by decide)]
      exact ⟨none, 0, h, RowOf.nil _⟩
  · next h1 =>
    rw [if_neg h1, if_neg (by decide)]
    exact ⟨none, 0, h, RowOf.nil _⟩

set_option maxRecDepth 100000 in
set_option maxHeartbeats 4000000 in
theorem lawChecks_any (g : GramM) (name : ByteArray) (n : Int) (w : World) (hg : AGram w g) (hv : vastB g = false) (hs : name.size ≤ 1500) :
    Calls Try.prog 3 #[gramV g, .string name, .int .i64 n] w fun e w' => e = .returned (.bool true) ∧ Below w.heap.size w w' := by
  have hf := hg.fit hv
  have hA : Below w.heap.size w (w.alloc (.cells (gramC g) 27)) := (Below.refl _ w).alloc (Nat.le_refl _) _
  have HB0 := Lib.hid hA
  have HK0 := Lib.hid (Blk.new w 27 (gramC g))
  have H1 := Lib.hid (vast_any g _ (hg.below hA))
  rw [hv] at H1
  have HCp := Lib.hid (fun W (hW : Below w.heap.size w W) => copied_any g W (hg.inn.below hW) hg.nilOK hf.fit)
  have HLC := Lib.hid (fun m (h : CopyOf g m) => lc_of h hf name (by omega) n)
  have HRC := Lib.hid (fun W (hW : GIn W g) => rcheck_any g W hW hf)
  have HRW := Lib.hid (fun W (hW : GIn W g) => rwell_any g W hW hf)
  have HGI := Lib.hid (fun W (hW : Below w.heap.size w W) => hg.inn.below hW)
  have HF := Lib.hid hf
  clear hg hv hf hA
  have hs1 : (name.size : Int) ≤ 1500 := by omega
  have d1 : decide ((1500 : Int) < (name.size : Int)) = false := by simp; omega
  unfold gramV gramC at HK0 HB0 H1 ⊢
  have l0 := HK0.out.lt
  go_enter Try.func3, Try.ntmps3
  go_wp2_with fail
  with_reducible refine H1.out.mono ?_
  rintro e w1 ⟨rfl, hB1⟩
  have HB1 := Lib.hid (HB0.out.trans (hB1.mono HB0.out.size))
  have HK1 := Lib.hid (HK0.out.below hB1 HK0.out.lt)
  obtain ⟨c0, c1, c2, c3, c4⟩ := cells5' HK1.out
  have l1 := HK1.out.lt
  have HC1 := Lib.hid (HCp.out w1 HB1.out)
  unfold gramV gramC at HC1
  clear hB1 HCp H1 HB0 HK0 l0
  go_wp2_with fail
  with_reducible refine HC1.out.mono ?_
  rintro e w2 ⟨m, rfl, hcp, hgm, _, hB2⟩
  have hA2 : Below w2.heap.size w2 (w2.alloc (.cells (gramC m) 27)) := (Below.refl _ w2).alloc (Nat.le_refl _) _
  have hK : LK g m w w2.heap.size (w2.alloc (.cells (gramC m) 27)) := by
    have b2 := HB1.out.trans (hB2.mono HB1.out.size)
    exact ⟨(HK1.out.below hB2 HK1.out.lt).below hA2 (HK1.out.below hB2 HK1.out.lt).lt, Blk.new w2 27 (gramC m), b2.trans (hA2.mono b2.size), (HGI.out w2 b2).below hA2, hgm.below hA2⟩
  have HLm := Lib.hid (HLC.out m hcp)
  clear hA2 hB2 hgm hcp HLC HC1 c0 c1 c2 c3 c4 l1 HK1 HB1 HGI
  have K2 := Lib.hid hK
  obtain ⟨c0, c1, c2, c3, c4⟩ := cells5' hK.b0
  obtain ⟨m0, m1, m2, m3, m4⟩ := cells5' hK.b1
  have l0 := hK.b0.lt
  have l1 := hK.b1.lt
  have HR := Lib.hid (HRC.out _ hK.gg)
  obtain ⟨E, hE⟩ : ∃ E, E = errI (checkB g) := ⟨_, rfl⟩
  have HE := Lib.hid hE
  rw [← hE] at HR
  clear hE
  unfold gramV gramC at HR
  unfold gramC at c0 c1 c2 c3 c4 m0 m1 m2 m3 m4 l0 l1
  clear hK
  go_wp2_with fail
  with_reducible refine HR.out.mono ?_
  rintro e w3 ⟨rfl, hB3⟩
  have K3 := Lib.hid (K2.out.below hB3)
  clear hB3 c0 c1 c2 c3 c4 m0 m1 m2 m3 m4 l0 l1 HR
  obtain ⟨c0, c1, c2, c3, c4⟩ := cells5' K3.out.b0
  obtain ⟨m0, m1, m2, m3, m4⟩ := cells5' K3.out.b1
  have l0 := K3.out.b0.lt
  have l1 := K3.out.b1.lt
  have HW := Lib.hid (HLm.out.well w3 K3.out.gm)
  unfold gramV gramC at HW
  go_wp2_with fail
  with_reducible refine HW.out.mono ?_
  rintro e w4 ⟨r, hr, rfl, hB4⟩
  have K4 := Lib.hid (K3.out.below hB4)
  clear hB4 c0 c1 c2 c3 c4 m0 m1 m2 m3 m4 l0 l1 HW
  obtain ⟨c0, c1, c2, c3, c4⟩ := cells5' K4.out.b0
  obtain ⟨m0, m1, m2, m3, m4⟩ := cells5' K4.out.b1
  have l0 := K4.out.b0.lt
  have l1 := K4.out.b1.lt
  have HW := Lib.hid (HRW.out w4 K4.out.gg)
  unfold gramV gramC at HW
  go_wp2_with fail
  with_reducible refine HW.out.mono ?_
  rintro e w5 ⟨r', hr', rfl, hB5⟩
  obtain rfl := wellP_unique hr hr'
  clear hr hr'
  have K5 := Lib.hid (K4.out.below hB5)
  clear hB5 c0 c1 c2 c3 c4 m0 m1 m2 m3 m4 l0 l1 HW
  obtain ⟨c0, c1, c2, c3, c4⟩ := cells5' K5.out.b0
  obtain ⟨m0, m1, m2, m3, m4⟩ := cells5' K5.out.b1
  have l0 := K5.out.b0.lt
  have l1 := K5.out.b1.lt
  have HW := Lib.hid (HLm.out.check w5 K5.out.gm)
  rw [← HE.out] at HW
  unfold gramV gramC at HW
  obtain ⟨r1, r2⟩ := r
  dsimp only
  go_wp2_with fail
  with_reducible refine HW.out.mono ?_
  rintro e w6 ⟨rfl, hB6⟩
  have K6 := Lib.hid (K5.out.below hB6)
  clear hB6 c0 c1 c2 c3 c4 m0 m1 m2 m3 m4 l0 l1 HW
  obtain ⟨c0, c1, c2, c3, c4⟩ := cells5' K6.out.b0
  obtain ⟨m0, m1, m2, m3, m4⟩ := cells5' K6.out.b1
  have l0 := K6.out.b0.lt
  have l1 := K6.out.b1.lt
  have HW := Lib.hid (HLm.out.find w6 K6.out.gm)
  unfold gramV gramC at HW
  obtain ⟨fi, hfi⟩ : ∃ f, f = findN name g.sorts := ⟨_, rfl⟩
  rw [← hfi] at HW
  have HFi := Lib.hid hfi
  clear hfi
  go_wp2_with fail
  with_reducible refine HW.out.mono ?_
  rintro e w7 ⟨rfl, hB7⟩
  have K7 := Lib.hid (K6.out.below hB7)
  clear hB7 c0 c1 c2 c3 c4 m0 m1 m2 m3 m4 l0 l1 HW
  obtain ⟨c0, c1, c2, c3, c4⟩ := cells5' K7.out.b0
  obtain ⟨m0, m1, m2, m3, m4⟩ := cells5' K7.out.b1
  have l0 := K7.out.b0.lt
  have l1 := K7.out.b1.lt
  have hns := HF.out.fit.sorts
  have HF0 : Hid (fi = (findN name (g.sorts.drop 0)).map (· + 0)) := Lib.hid (by rw [HFi.out, List.drop_zero]; simp)
  have HFE : Hid (none = (findN name (g.sorts.drop g.sorts.length)).map (· + g.sorts.length)) := Lib.hid (by rw [List.drop_length]; rfl)
  have HFS : Hid (∀ (k : Nat) (x : ByteArray) (f : Option Nat), g.sorts[k]? = some x → f = (findN name (g.sorts.drop (k + 1))).map (· + (k + 1)) → (if strEq x name then some k else f) = (findN name (g.sorts.drop k)).map (· + k)) := Lib.hid fun k x f hx hf => by
    rw [findN_drop name g.sorts k x hx]
    cases strEq x name with
    | true => simp
    | false =>
      rw [hf]
      cases findN name (g.sorts.drop (k + 1)) with
      | none => rfl
      | some i => simp; omega
  clear HRC HRW
  go_wp2
  go_loop [15, 16, 17] (fun a b i => ∃ (k : Nat) (f : Option Nat), a = .int .i64 ((f.getD 0 : Nat) : Int) ∧ b = .bool f.isSome ∧ i = .int .i64 ((k : Int) - 1) ∧ k ≤ g.sorts.length ∧ Hid (f = (findN name (g.sorts.drop k)).map (· + k))) (fun _ _ i => (intOf i + 1).toNat)
  case atStart => exact ⟨g.sorts.length, none, rfl, rfl, rfl, Nat.le_refl _, HFE⟩
  case round =>
    obtain ⟨k, f, rfl, rfl, rfl, hk, hF⟩ := hrel
    cases k with
    | succ j =>
      have e : (((j + 1 : Nat)) : Int) - 1 = (j : Int) := by omega
      rw [e]
      clear e
      obtain ⟨x, hx⟩ : ∃ x, g.sorts[j]? = some x := ⟨_, List.getElem?_eq_getElem (by omega)⟩
      obtain ⟨b1, o1, e1, hb1, hc1, _⟩ := K7.out.gg.sorts j x hx
      have x0 := Str_at hc1
      simp only [Nat.mul_one] at x0
      have z1 : (j : Int) < (g.sorts.length : Int) := by omega
      have z0 : (0 : Int) ≤ (j : Int) := by omega
      have HN := Lib.hid (HFS.out j x f hx hF.out)
      rw [e1] at c0
      clear hc1 hx hF
      have hfb : ((f.getD 0 : Nat) : Int) = ((f.getD 0 : Nat) : Int) := rfl
      by_cases he : x.data.toList = name.data.toList
      · have g1 : (x.toList == name.toList) = true := by rw [toList_data, toList_data, he]; simp
        have HN2 : Hid (some j = (findN name (g.sorts.drop j)).map (· + j)) := Lib.hid (by have h := HN.out; rw [show strEq x name = true by unfold strEq; simpa using he] at h; simpa using h)
        clear HN he
        go_wp2
        go_round
        case rel => exact ⟨j, some j, rfl, rfl, rfl, by omega, HN2⟩
        case measure => simp [intOf]
      · have g1 : (x.toList == name.toList) = false := by rw [toList_data, toList_data]; simpa using he
        have HN2 : Hid (f = (findN name (g.sorts.drop j)).map (· + j)) := Lib.hid (by have h := HN.out; rw [show strEq x name = false by unfold strEq; simpa using he] at h; simpa using h)
        clear HN he
        go_wp2
        go_round
        case rel => exact ⟨j, f, rfl, rfl, rfl, by omega, HN2⟩
        case measure => simp [intOf]
    | zero =>
      obtain rfl : f = fi := by rw [hF.out, HF0.out]
      clear hF HF0 HFE HFS HFi
      have HW := Lib.hid (HLm.out.of w7 K7.out.gm)
      unfold gramV gramC at HW
      go_wp2_with fail
      with_reducible refine HW.out.mono ?_
      rintro e w8 ⟨hO, hB8⟩
      obtain ⟨a18, c18, rfl, hrow⟩ := ofP_w hO
      have HRow := Lib.hid hrow
      clear hO hrow
      have K8 := Lib.hid (K7.out.below hB8)
      clear hB8 c0 c1 c2 c3 c4 m0 m1 m2 m3 m4 l0 l1 HW
      obtain ⟨c0, c1, c2, c3, c4⟩ := cells5' K8.out.b0
      obtain ⟨m0, m1, m2, m3, m4⟩ := cells5' K8.out.b1
      have l0 := K8.out.b0.lt
      have l1 := K8.out.b1.lt
      obtain ⟨i0, hi, hz0, hz1, hz2⟩ := info_parts Try.info3
      have hnp := HF.out.fit.prods
      obtain ⟨wn, hwn⟩ : ∃ k, k = (wl g n).length := ⟨_, rfl⟩
      obtain ⟨we, hwe⟩ : ∃ k, k = weI g n := ⟨_, rfl⟩
      have HWn := Lib.hid hwn
      have HWe := Lib.hid hwe
      rw [← hwn, ← hwe]
      clear hwn hwe
      go_wp2
      go_loopw [20, 21] (fun v i wr => ∃ (k : Nat), i = .int .i64 k ∧ k ≤ g.prods.length ∧ Hid (wr.ownsRow w8.heap.size 3 1 v (ofK (g.prods.take k) n).length (cellsL intC (ofK (g.prods.take k) n))) ∧ Hid (Below w8.heap.size w8 wr))
        (fun _ i _ => g.prods.length - (intOf i).toNat)
      case atStart => exact ⟨0, rfl, Nat.zero_le _, Lib.hid (World.ownsRow_nil _ _ _ _), Below.refl _ _⟩
      case round =>
        clear c0 c1 c2 c3 c4 m0 m1 m2 m3 m4 l0 l1
        obtain ⟨k, rfl, hk, hO, hB⟩ := hrel
        have K9 := Lib.hid (K8.out.below hB.out)
        obtain ⟨c0, c1, c2, c3, c4⟩ := cells5' K9.out.b0
        obtain ⟨m0, m1, m2, m3, m4⟩ := cells5' K9.out.b1
        have l0 := K9.out.b0.lt
        have l1 := K9.out.b1.lt
        have hszr := hB.out.size
        by_cases hlt : k < g.prods.length
        · obtain ⟨x, hx⟩ : ∃ x, g.prods[k]? = some x := ⟨_, List.getElem?_eq_getElem hlt⟩
          have HT := Lib.hid (take_snoc g.prods k x hx)
          obtain ⟨b, off, e1, hbr, hc, ht⟩ := K9.out.gg.prods k x hx
          rw [e1] at c1
          clear ht e1
          obtain ⟨p0, p1, p2, p3, p4, p5, p6⟩ := Prod_at hc
          have n1 : (k : Int) < (g.prods.length : Int) := by omega
          have n0 : (0 : Int) ≤ (k : Int) := by omega
          have hlen : (g.prods.take k).length = k := by rw [List.length_take]; omega
          have HS := Lib.hid (ofK_snoc (g.prods.take k) x n)
          have hol := ofK_len (g.prods.take k) n
          rw [hlen] at hol
          have HOf : Hid (ofK (g.prods.take (k + 1)) n = ofK (g.prods.take k) n ++ if x.left == n then [(k : Int)] else []) := Lib.hid (by rw [HT.out, HS.out, hlen])
          clear hc hx HT HS hlen p1 p2 p3 p4 p5 p6
          obtain ⟨left, ra, rc, right, cons, role, prefer, avoid, frm⟩ := x
          dsimp only at *
          obtain ⟨O2, hO2⟩ : ∃ O, O = ofK (g.prods.take (k + 1)) n := ⟨_, rfl⟩
          rw [← hO2] at HOf
          have HQ := Lib.hid hO2
          clear hO2
          generalize ofK (g.prods.take k) n = O1 at *
          by_cases h1 : left = n
          · subst h1
            have HO2 : Hid (O2 = O1 ++ [(k : Int)]) := Lib.hid (by rw [HOf.out]; simp)
            have HCN := Lib.hid (cells_new wr #[.int .i64 k] 3)
            have hol2 : O1.length + 1 ≤ 1048577 := by omega
            clear HOf
            go_wp2_with (first
              | (at_builtin; refine wpList_append_own _ rfl (.tmp 111) (.tmp 113) 40 rfl w8.heap.size 3 i0 (.int .i64 0) 1 8 Try.underlying40 hi hz0 hz1 hz2 rfl (by decide) _ _ _ rfl (hO.out.alloc _) ⟨wr.heap.size, 0, none⟩ 1 1 [.int .i64 k] rfl rfl HCN.out (by simp [Value.oneCell']) (by unfold maxLen; omega) (by omega) (by simp; omega) ?_; intro v5 w5 hown5 hgrow5 _))
            have hf5 := own_fin (hO.out.alloc _) ((Below.refl w8.heap.size wr).alloc hszr _) hszr hgrow5
            have hO5 : Hid (w5.ownsRow w8.heap.size 3 1 v5 O2.length (cellsL intC O2)) := Lib.hid (by
              rw [HO2.out, cellsL_snoc, List.length_append]; exact hown5)
            have hB5 := Lib.hid (hB.out.trans hf5)
            clear hf5 hown5 hgrow5 hO hB
            go_wp2
            go_roundw
            case rel => exact ⟨k + 1, by go_num, by omega, by rw [← HQ.out]; exact hO5, hB5⟩
            case measure => simp [intOf]; omega
          · have e1 : (left == n) = false := by simpa using h1
            have HO2 : Hid (O2 = O1) := Lib.hid (by rw [HOf.out, e1]; simp)
            clear HOf h1
            go_wp2
            go_roundw
            case rel => exact ⟨k + 1, by go_num, by omega, by rw [← HQ.out, HO2.out]; exact hO, hB⟩
            case measure => simp [intOf]; omega
        · obtain rfl : k = g.prods.length := by omega
          have hO2 := hO.out
          rw [List.take_length] at hO2
          obtain ⟨va, vc, rfl, hrow2⟩ := own_row (cs := intC) (G := NoG) (fun _ => rfl) hO2 (fun _ _ => trivial)
          have HRow1 := Lib.hid (HRow.out.below hB.out (fun _ _ => trivial))
          have HRow2 := Lib.hid hrow2
          clear hO hO2 hrow2 hB HRow
          clear hk hlt hszr HF hi hz0 hz1 hz2 i0
          cases hcb : checkB g with
          | false =>
            have e0 : weI g n = 160 := by unfold weI; rw [hcb]; rfl
            obtain rfl : E = 160 := by rw [HE.out, hcb]; rfl
            obtain rfl : we = 160 := by rw [HWe.out, e0]
            obtain rfl : wn = 0 := by rw [HWn.out]; unfold wl; rw [e0]; rfl
            clear e0 hcb HWn HWe HE
            clear HRow1 HRow2
            go_wp2
            go_loop [23] (fun i => i = .int .i64 0) (fun _ => 0)
            case atStart => rfl
            case round =>
              obtain rfl := hrel
              have HW := Lib.hid (HLm.out.same wr K9.out.gm K9.out.gg)
              unfold gramV gramC at HW
              go_wp2_with fail
              with_reducible refine HW.out.mono ?_
              rintro e w10 ⟨rfl, hB10⟩
              have HB10 := Lib.hid (K9.out.bl.trans (hB10.mono K9.out.bl.size))
              clear hB10 HW c0 c1 c2 c3 c4 m0 m1 m2 m3 m4 l0 l1
              go_wp2_with fail
              with_reducible refine (known_any w10).mono ?_
              rintro e w11 ⟨rfl, hB11⟩
              go_wp2
              go_ret
              exact ⟨rfl, HB10.out.trans (hB11.mono HB10.out.size)⟩
          | true =>
            obtain rfl : E = 0 := by rw [HE.out, hcb]; rfl
            by_cases hlow : n < 0
            · have e0 : weI g n = 4 := by unfold weI numB; rw [hcb, decide_eq_false (by omega : ¬ 0 ≤ n)]; rfl
              obtain rfl : we = 4 := by rw [HWe.out, e0]
              obtain rfl : wn = 0 := by rw [HWn.out]; unfold wl; rw [e0]; rfl
              clear e0 hcb HWn HWe HE
              clear HRow1 HRow2
              go_wp2
              go_loop [23] (fun i => i = .int .i64 0) (fun _ => 0)
              case atStart => rfl
              case round =>
                obtain rfl := hrel
                have HW := Lib.hid (HLm.out.same wr K9.out.gm K9.out.gg)
                unfold gramV gramC at HW
                go_wp2_with fail
                with_reducible refine HW.out.mono ?_
                rintro e w10 ⟨rfl, hB10⟩
                have HB10 := Lib.hid (K9.out.bl.trans (hB10.mono K9.out.bl.size))
                clear hB10 HW c0 c1 c2 c3 c4 m0 m1 m2 m3 m4 l0 l1
                go_wp2_with fail
                with_reducible refine (known_any w10).mono ?_
                rintro e w11 ⟨rfl, hB11⟩
                go_wp2
                go_ret
                exact ⟨rfl, HB10.out.trans (hB11.mono HB10.out.size)⟩
            · have hge : (0 : Int) ≤ n := by omega
              by_cases hhi : (g.sorts.length : Int) ≤ n
              · have e0 : weI g n = 4 := by unfold weI numB; rw [hcb, decide_eq_false (by omega : ¬ n < (g.sorts.length : Int))]; simp
                obtain rfl : we = 4 := by rw [HWe.out, e0]
                obtain rfl : wn = 0 := by rw [HWn.out]; unfold wl; rw [e0]; rfl
                clear e0 hcb HWn HWe HE
                clear HRow1 HRow2
                go_wp2
                go_loop [23] (fun i => i = .int .i64 0) (fun _ => 0)
                case atStart => rfl
                case round =>
                  obtain rfl := hrel
                  have HW := Lib.hid (HLm.out.same wr K9.out.gm K9.out.gg)
                  unfold gramV gramC at HW
                  go_wp2_with fail
                  with_reducible refine HW.out.mono ?_
                  rintro e w10 ⟨rfl, hB10⟩
                  have HB10 := Lib.hid (K9.out.bl.trans (hB10.mono K9.out.bl.size))
                  clear hB10 HW c0 c1 c2 c3 c4 m0 m1 m2 m3 m4 l0 l1
                  go_wp2_with fail
                  with_reducible refine (known_any w10).mono ?_
                  rintro e w11 ⟨rfl, hB11⟩
                  go_wp2
                  go_ret
                  exact ⟨rfl, HB10.out.trans (hB11.mono HB10.out.size)⟩
              · have hlo : n < (g.sorts.length : Int) := by omega
                have e0 : weI g n = 0 := by unfold weI numB; rw [hcb, decide_eq_true hge, decide_eq_true hlo]; rfl
                have hwl : wl g n = ofK g.prods n := by unfold wl; rw [if_pos e0]
                obtain rfl : we = 0 := by rw [HWe.out, e0]
                obtain rfl : wn = (ofK g.prods n).length := by rw [HWn.out, hwl]
                clear e0 hcb HE
                rw [hwl] at HRow1
                have hol := ofK_len g.prods n
                clear hwl HWn HWe
                generalize ofK g.prods n = L at *
                go_wp2
                obtain ⟨wb, rfl⟩ : ∃ wb : World, wb = wr := ⟨_, rfl⟩
                go_loopw [23] (fun i wq => ∃ k : Nat, i = .int .i64 k ∧ k ≤ L.length ∧ Hid (Below wb.heap.size wb wq)) (fun i _ => L.length - (intOf i).toNat)
                case atStart => exact ⟨0, rfl, Nat.zero_le _, Lib.hid (Below.refl _ _)⟩
                case round =>
                  clear c0 c1 c2 c3 c4 m0 m1 m2 m3 m4 l0 l1
                  obtain ⟨k, rfl, hk, hB⟩ := hrel
                  by_cases hlt : k < L.length
                  · obtain ⟨y, hy⟩ : ∃ y, L[k]? = some y := ⟨_, List.getElem?_eq_getElem hlt⟩
                    obtain ⟨b1, o1, rfl, hb1, hc1, _⟩ := HRow1.out k y hy
                    obtain ⟨b2, o2, rfl, hb2, hc2, _⟩ := HRow2.out k y hy
                    have r1 := Int_at (hc1.below hB.out hb1)
                    have r2 := Int_at (hc2.below hB.out hb2)
                    simp only [Nat.mul_one] at r1 r2
                    have n1 : (k : Int) < (L.length : Int) := by omega
                    have n0 : (0 : Int) ≤ (k : Int) := by omega
                    have hb1' := Nat.lt_of_lt_of_le hb1 hB.out.size
                    have hb2' := Nat.lt_of_lt_of_le hb2 hB.out.size
                    clear hy hc1 hc2 HRow1 HRow2
                    go_wp2
                    go_region
                    go_wp2
                    go_roundw
                    case rel => exact ⟨k + 1, by go_num, by omega, Lib.hid hB.out.drew⟩
                    case measure => simp [intOf]; omega
                  · obtain rfl : k = L.length := by omega
                    have K10 := Lib.hid (K9.out.below hB.out)
                    obtain ⟨c0, c1, c2, c3, c4⟩ := cells5' K10.out.b0
                    obtain ⟨m0, m1, m2, m3, m4⟩ := cells5' K10.out.b1
                    have l0 := K10.out.b0.lt
                    have l1 := K10.out.b1.lt
                    clear HRow1 HRow2
                    have HW := Lib.hid (HLm.out.same wr K10.out.gm K10.out.gg)
                    unfold gramV gramC at HW
                    go_wp2_with fail
                    with_reducible refine HW.out.mono ?_
                    rintro e w10 ⟨rfl, hB10⟩
                    have HB10 := Lib.hid (K10.out.bl.trans (hB10.mono K10.out.bl.size))
                    clear hB10 HW c0 c1 c2 c3 c4 m0 m1 m2 m3 m4 l0 l1
                    go_wp2_with fail
                    with_reducible refine (known_any w10).mono ?_
                    rintro e w11 ⟨rfl, hB11⟩
                    go_wp2
                    go_ret
                    exact ⟨rfl, HB10.out.trans (hB11.mono HB10.out.size)⟩

set_option maxRecDepth 100000 in
set_option maxHeartbeats 1000000 in
theorem lawChecks_vast (g : GramM) (name : ByteArray) (n : Int) (w : World) (hg : AGram w g) (_ : name.size ≤ maxLen) (hv : vastB g = true ∨ 1500 < name.size) :
    Calls Try.prog 3 #[gramV g, .string name, .int .i64 n] w fun e w' => e = .returned (.bool true) ∧ Below w.heap.size w w' := by
  have hA : Below w.heap.size w (w.alloc (.cells (gramC g) 27)) := (Below.refl _ w).alloc (Nat.le_refl _) _
  have HB0 := Lib.hid hA
  have H1 := Lib.hid (vast_any g _ (hg.below hA))
  clear hg hA
  obtain ⟨v, hv'⟩ : ∃ v, v = vastB g := ⟨_, rfl⟩
  rw [← hv'] at hv H1
  clear hv'
  unfold gramV gramC at *
  cases v with
  | true =>
    clear hv
    go_enter Try.func3, Try.ntmps3
    go_wp2_with fail
    with_reducible refine H1.out.mono ?_
    rintro e w1 ⟨rfl, hB1⟩
    have HB1 := Lib.hid (HB0.out.trans (hB1.mono HB0.out.size))
    clear hB1 HB0 H1
    go_wp2_with fail
    with_reducible refine (known_any w1).mono ?_
    rintro e w2 ⟨rfl, hB2⟩
    go_wp2
    go_ret
    exact ⟨rfl, HB1.out.trans (hB2.mono HB1.out.size)⟩
  | false =>
    have hs : 1500 < name.size := by simpa using hv
    have hs1 : (1500 : Int) < (name.size : Int) := by omega
    have d1 : decide ((1500 : Int) < (name.size : Int)) = true := by simp; omega
    clear hv
    go_enter Try.func3, Try.ntmps3
    go_wp2_with fail
    with_reducible refine H1.out.mono ?_
    rintro e w1 ⟨rfl, hB1⟩
    have HB1 := Lib.hid (HB0.out.trans (hB1.mono HB0.out.size))
    clear hB1 HB0 H1
    go_wp2_with fail
    with_reducible refine (known_any w1).mono ?_
    rintro e w2 ⟨rfl, hB2⟩
    go_wp2
    go_ret
    exact ⟨rfl, HB1.out.trans (hB2.mono HB1.out.size)⟩
end Go.Proofs.Ytiihdbchchnncaa
end
