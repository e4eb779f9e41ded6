import Derived.Test.YtodnlcbnbkkanaaGreatDoorM4
import Derived.Test.YtodnlcbnbkkanaaGreatDoorM5
section
namespace Go.Proofs.YtodnlcbnbkkanaaGreatDoor
open Go Go.RowKit

set_option maxRecDepth 100000 in
set_option maxHeartbeats 2000000 in
/-- The reference's Productive. -/
theorem rproductive_any (g : GramM) (hm : MayB g) (hf : Fit g) (w : World) (hg : GIn w g) :
    Calls Tryz.prog 18 #[gramV g] w fun e w' => ∃ L, Live g L ∧ e = .returned (.slice (some ⟨w.heap.size + 1, 0, none⟩) L.length L.length) ∧ Blk w' (w.heap.size + 1) 4 (bools L) ∧ Below w.heap.size w w' := by
  have HG := Lib.hid hg
  have hmk := fun w' => make_bools g.sorts.length hm.sorts2 w'
  have HM := Lib.hid hm
  have HF := Lib.hid hf
  have hn1 := hm.sorts2
  have hn2 := hm.prods
  have hP0 : PJ g w ((w.alloc (.cells (gramC g) 27)).alloc (.cells (bools (List.replicate g.sorts.length false)) 4)) (List.replicate g.sorts.length false) := by
    have hb2 := Blk.new (w.alloc (.cells (gramC g) 27)) 4 (bools (List.replicate g.sorts.length false))
    rw [World.size_alloc] at hb2
    refine ⟨(Blk.new w 27 (gramC g)).alloc _, hb2, ((Below.refl _ w).alloc (Nat.le_refl _) _).alloc (by simp) _, by simp, fun k hk => ?_⟩
    rw [List.getElem?_replicate] at hk
    split at hk <;> simp at hk
  have HP0 : Hid (PJ g w ((w.alloc (.cells (gramC g) 27)).alloc (.cells (bools (List.replicate g.sorts.length false)) 4)) (List.replicate g.sorts.length false) ∧ (Closed g (List.replicate g.sorts.length false) ∨ 0 + (List.replicate g.sorts.length false).count false ≤ g.sorts.length)) := Lib.hid ⟨hP0, .inr (by simp)⟩
  have HEnd : Hid (∀ (W : World) (L : List Bool), PJ g w W L → (Closed g L ∨ g.sorts.length + L.count false ≤ g.sorts.length) → Live g L) := Lib.hid fun W L h hc => by
    refine live_of h.len h.sound ?_
    rcases hc with hc | hc
    · exact hc
    · exact closed_full hm h.len (by omega)
  obtain ⟨n, hn⟩ : ∃ n, n = g.sorts.length := ⟨_, rfl⟩
  obtain ⟨np, hnp⟩ : ∃ n, n = g.prods.length := ⟨_, rfl⟩
  have N1 := Lib.hid hn
  have N2 := Lib.hid hnp
  rw [← hn] at hn1 HP0 hmk
  rw [← hnp] at hn2
  clear hm hf hg hP0
  unfold gramV gramC at *
  rw [← hn, ← hnp] at HP0 ⊢
  clear hn hnp
  obtain ⟨RL, hRL⟩ : ∃ RL : List Bool, RL = List.replicate n false := ⟨_, rfl⟩
  rw [← hRL] at HP0 hmk
  clear hRL
  go_enter Tryz.func18, Tryz.ntmps18
  go_wp2
  go_loopw [4] (fun vi wr => ∃ r : Nat, vi = .int .i64 r ∧ r ≤ n ∧ ∃ L, Hid (PJ g w wr L ∧ (Closed g L ∨ r + L.count false ≤ g.sorts.length))) (fun vi _ => n - (intOf vi).toNat)
  case atStart => exact ⟨0, rfl, Nat.zero_le _, RL, Lib.hid ⟨HP0.out.1, by rw [← N1.out]; exact HP0.out.2⟩⟩
  case round =>
    clear HP0 hmk
    obtain ⟨r, rfl, hr, L, K⟩ := hrel
    obtain ⟨c0, c1, c2, c3, c4⟩ := K.out.1.b0.gram
    rw [← N1.out] at c0
    rw [← N2.out] at c1
    have l0 := K.out.1.b0.lt
    by_cases hlt : r < n
    · have z1 : (r : Int) < (n : Int) := by omega
      have K0 : Hid (PJ g w wr L ∧ RoundP g r L 0 L) := Lib.hid ⟨K.out.1, .inl ⟨rfl, fun i x hi => by omega, K.out.2⟩⟩
      clear K
      go_wp2
      obtain ⟨wo, rfl⟩ : ∃ wo : World, wo = wr := ⟨_, rfl⟩
      go_loopw [5] (fun vj wr => ∃ j : Nat, vj = .int .i64 j ∧ j ≤ np ∧ ∃ M, Hid (PJ g w wr M ∧ RoundP g r L j M)) (fun vj _ => np - (intOf vj).toNat)
      case atStart => exact ⟨0, rfl, Nat.zero_le _, L, K0⟩
      case round =>
        clear K0 c0 c1 c2 c3 c4 l0
        obtain ⟨j, rfl, hj, M, K⟩ := hrel
        obtain ⟨c0, c1, c2, c3, c4⟩ := K.out.1.b0.gram
        rw [← N1.out] at c0
        rw [← N2.out] at c1
        have l0 := K.out.1.b0.lt
        by_cases hlj : j < np
        · obtain ⟨x, hx⟩ : ∃ x, g.prods[j]? = some x := ⟨_, List.getElem?_eq_getElem (by rw [← N2.out]; exact hlj)⟩
          obtain ⟨b1, o1, e1, hb1, hc1, hi1⟩ := HG.out.prods j x hx
          obtain ⟨x0, x1, x2, x3, x4, x5, x6⟩ := Prod_at (hc1.below K.out.1.b hb1)
          have hb1' := Nat.lt_of_lt_of_le hb1 K.out.1.b.size
          have z2 : (j : Int) < (np : Int) := by omega
          have z0 : (0 : Int) ≤ (j : Int) := by omega
          have hxm := List.mem_of_getElem? hx
          obtain ⟨k, hk, hkn⟩ := HM.out.left x hxm
          have HC := Lib.hid (can_any x M (some ⟨w.heap.size + 1, 0, none⟩) M.length wr (hi1.below K.out.1.b) K.out.1.b1.row (HF.out.right x hxm) (by rw [K.out.1.len, ← N1.out]; omega) (fun s hs hk => by rw [K.out.1.len]; exact HM.out.sym x hxm s hs hk))
          have HNo : Hid (okP M x = false → RoundP g r L (j + 1) M) := Lib.hid fun h => K.out.2.no hx h
          have HYes : Hid (okP M x = true → RoundP g r L (j + 1) (M.set k true) ∧ ∀ W, PJ g w W M → PJ g w (W.setCell ⟨w.heap.size + 1, k, none⟩ (.bool true)) (M.set k true)) := Lib.hid fun h => ⟨K.out.2.yes K.out.1.len hx hk hkn h, fun W hW => hW.set hxm k hk h⟩
          have hlen := K.out.1.len
          rw [hlen, ← N1.out] at HC
          have HCX := Lib.hid hc1
          have E1 := Lib.hid e1
          rw [e1] at c1
          rw [hk] at x0
          have hkn' : k < n := by rw [N1.out]; exact hkn
          have HK := Lib.hid hk
          clear hx hc1 hi1 e1 hxm hk hkn hlen
          generalize okP M x = c at *
          unfold prodV prodC at HC
          rw [HK.out] at HC
          go_wp2_with fail
          with_reducible refine HC.out.mono ?_
          rintro e w3 ⟨rfl, hB3⟩
          have K3 := Lib.hid (K.out.1.below hB3)
          obtain ⟨d0, d1, d2, d3, d4⟩ := K3.out.b0.gram
          rw [← N1.out] at d0
          rw [← N2.out, E1.out] at d1
          obtain ⟨y0, _⟩ := Prod_at (HCX.out.below K3.out.b hb1)
          rw [HK.out] at y0
          have l3 := K3.out.b0.lt
          have hb3 := Nat.lt_of_lt_of_le hb1 K3.out.b.size
          clear hB3 K c0 c1 c2 c3 c4 x0 x1 x2 x3 x4 x5 x6 l0 HC
          cases c with
          | false =>
            have HR := Lib.hid (HNo.out rfl)
            clear HNo HYes
            go_wp2
            go_roundw
            case rel => exact ⟨j + 1, by go_num, by omega, M, Lib.hid ⟨K3.out, HR.out⟩⟩
            case measure => simp [intOf]; omega
          | true =>
            obtain ⟨hr1, hr2⟩ := HYes.out rfl
            have HR := Lib.hid hr1
            have HP := Lib.hid (hr2 w3 K3.out)
            have f1 := K3.out.b1.frozen k
            have q1 := K3.out.b1.cell k
            rw [bools_at M k (by rw [K3.out.len, ← N1.out]; exact hkn')] at q1
            have l4 := K3.out.b1.lt
            have z3 : (k : Int) < (n : Int) := by omega
            have z4 : (0 : Int) ≤ (k : Int) := by omega
            clear HNo HYes hr1 hr2
            go_wp2
            go_roundw
            case rel => exact ⟨j + 1, by go_num, by omega, M.set k true, Lib.hid ⟨HP.out, HR.out⟩⟩
            case measure => simp [intOf]; omega
        · obtain rfl : np = j := by omega
          have HD : Hid (PJ g w wr M ∧ (Closed g M ∨ r + 1 + M.count false ≤ g.sorts.length)) := Lib.hid ⟨K.out.1, by
            have h := K.out.2
            rw [N2.out] at h
            exact h.done⟩
          clear K
          go_wp2
          go_roundw
          case rel => exact ⟨r + 1, by go_num, by omega, M, HD⟩
          case measure => simp [intOf]; omega
    · obtain rfl : n = r := by omega
      have HL := Lib.hid (HEnd.out wr L K.out.1 (by have := K.out.2; rw [N1.out] at this; exact this))
      have hl := K.out.1.len
      rw [← N1.out] at hl
      have Hl := Lib.hid hl
      have HK1 := Lib.hid K.out.1
      clear K hl
      go_wp2
      go_ret
      exact ⟨L, HL.out, by rw [Hl.out]; rfl, HK1.out.b1, HK1.out.b⟩
end Go.Proofs.YtodnlcbnbkkanaaGreatDoor
end
section
namespace Go.Proofs.YtodnlcbnbkkanaaGreatDoor
open Go Go.RowKit

/-- The productions that the reference's Reached goes by. -/
def useB (u : Bool) (L : List Bool) (x : ProdM) : Bool := !(x.role == 11) && (!u || okP L x)
def EdgeU (g : GramM) (u : Bool) (L : List Bool) (k t : Nat) : Prop := ∃ x, x ∈ g.prods ∧ x.left = k ∧ useB u L x = true ∧ ∃ s, s ∈ x.right ∧ s.kind = 1 ∧ s.sort = t
inductive RU (g : GramM) (u : Bool) (L : List Bool) (j : Nat) : Nat → Prop
  | refl : RU g u L j j
  | step {k t : Nat} : RU g u L j k → EdgeU g u L k t → RU g u L j t
def SoundU (g : GramM) (u : Bool) (L M : List Bool) : Prop := ∀ k : Nat, M[k]? = some true → RU g u L g.start.toNat k
def ClosedU (g : GramM) (u : Bool) (L M : List Bool) : Prop := ∀ x, x ∈ g.prods → useB u L x = true → lv M x.left = true → ∀ s, s ∈ x.right → s.kind = 1 → lv M s.sort = true
def ReachU (g : GramM) (u : Bool) (L R : List Bool) : Prop := R.length = g.sorts.length ∧ ∀ k : Nat, R[k]? = some true ↔ RU g u L g.start.toNat k
theorem reachU_of {g : GramM} {u : Bool} {L R : List Bool} (hl : R.length = g.sorts.length) (hs : R[g.start.toNat]? = some true) (h : SoundU g u L R) (hC : ClosedU g u L R) : ReachU g u L R := by
  refine ⟨hl, fun k => ⟨h k, fun hk => ?_⟩⟩
  induction hk with
  | refl => exact hs
  | step _ e ih =>
    obtain ⟨x, hx, hl, hu, s, hsx, hk, hst⟩ := e
    have := lv_true (hC x hx hu (lv_some (by rw [hl, Int.toNat_natCast]; exact ih)) s hsx hk)
    rw [hst, Int.toNat_natCast] at this
    exact this
/-- With all sorts live the edges are those of the program's own. -/
theorem edgeU_iff {g : GramM} (h11 : ∀ x, x ∈ g.prods → x.role = 11 → ∀ s, s ∈ x.right → s.kind ≠ 1) {u : Bool} {L : List Bool} (h : u = true ∨ ∀ x, x ∈ g.prods → sortsB (lv L) x = true) {k t : Nat} : EdgeU g u L k t ↔ Edge g L k t := by
  constructor
  · rintro ⟨x, hx, hl, hu, s, hs, hk, ht⟩
    refine ⟨x, hx, hl, ?_, s, hs, hk, ht⟩
    rcases h with rfl | h
    · unfold useB okP at hu
      simp only [Bool.not_true, Bool.false_or, Bool.and_eq_true] at hu
      exact hu.2.2
    · exact h x hx
  · rintro ⟨x, hx, hl, hu, s, hs, hk, ht⟩
    refine ⟨x, hx, hl, ?_, s, hs, hk, ht⟩
    have e : (x.role == 11) = false := by
      cases c : (x.role == 11) with
      | false => rfl
      | true => exact absurd hk (h11 x hx (by simpa using c) s hs)
    unfold useB okP
    rw [e, hu]
    cases u <;> rfl
theorem reachU_iff {g : GramM} (h11 : ∀ x, x ∈ g.prods → x.role = 11 → ∀ s, s ∈ x.right → s.kind ≠ 1) {u : Bool} {L R : List Bool} (h : u = true ∨ ∀ x, x ∈ g.prods → sortsB (lv L) x = true) : ReachU g u L R ↔ ReachL g L R := by
  have e : ∀ k, RU g u L g.start.toNat k ↔ RF g L g.start.toNat k := fun k => by
    constructor
    · intro hk
      induction hk with
      | refl => exact .refl
      | step _ e ih => exact ih.step ((edgeU_iff h11 h).1 e)
    · intro hk
      induction hk with
      | refl => exact .refl
      | step _ e ih => exact ih.step ((edgeU_iff h11 h).2 e)
  unfold ReachU ReachL
  simp only [e]

/-- How far a round has come. -/
def RS (n r : Nat) (C0 : Prop) (M0 : List Bool) (Q : Prop) (M : List Bool) : Prop := (M = M0 ∧ Q ∧ (C0 ∨ r + M0.count false ≤ n)) ∨ r + 1 + M.count false ≤ n
theorem RS.imp {n r : Nat} {C0 Q Q' : Prop} {M0 M : List Bool} (h : RS n r C0 M0 Q M) (hq : M = M0 → Q → Q') : RS n r C0 M0 Q' M := by
  rcases h with ⟨h1, h2, h3⟩ | h
  · exact .inl ⟨h1, hq h1 h2, h3⟩
  · exact .inr h
theorem RS.set {n r k : Nat} {C0 Q Q' : Prop} {M0 M : List Bool} (h : RS n r C0 M0 Q M) (hk : k < M.length) (hc : M = M0 → C0 → M0[k]? = some true) (hq : Q → M0[k]? = some true → Q') : RS n r C0 M0 Q' (M.set k true) := by
  rcases h with ⟨rfl, h2, h3⟩ | h
  · cases e : M[k]'hk with
    | true =>
      have e' : M[k]? = some true := by rw [List.getElem?_eq_getElem hk, e]
      rw [set_same e']
      exact .inl ⟨rfl, hq h2 e', h3⟩
    | false =>
      have e' : M[k]? = some false := by rw [List.getElem?_eq_getElem hk, e]
      have := count_set e'
      rcases h3 with h3 | h3
      · have := hc rfl h3
        rw [e'] at this; cases this
      · exact .inr (by omega)
  · have := count_set_le (L := M) k
    exact .inr (by omega)
def PQ (g : GramM) (u : Bool) (L M0 : List Bool) (j : Nat) : Prop := ∀ (i : Nat) (x : ProdM), i < j → g.prods[i]? = some x → useB u L x = true → lv M0 x.left = true → ∀ s, s ∈ x.right → s.kind = 1 → lv M0 s.sort = true
def PX (g : GramM) (u : Bool) (L M0 : List Bool) (j : Nat) (x : ProdM) (m : Nat) : Prop := PQ g u L M0 j ∧ ∀ (i : Nat) (s : SymM), i < m → x.right[i]? = some s → s.kind = 1 → lv M0 s.sort = true
theorem PQ.zero (g : GramM) (u : Bool) (L M0 : List Bool) : PQ g u L M0 0 := fun i x hi => by omega
theorem PQ.skip {g : GramM} {u : Bool} {L M0 : List Bool} {j : Nat} {x : ProdM} (h : PQ g u L M0 j) (hx : g.prods[j]? = some x) (hn : useB u L x = false ∨ lv M0 x.left = false) : PQ g u L M0 (j + 1) := fun i y hi hy hu hl => by
  by_cases e : i = j
  · subst e; rw [hx] at hy; cases hy
    rcases hn with hn | hn
    · rw [hn] at hu; cases hu
    · rw [hn] at hl; cases hl
  · exact h i y (by omega) hy hu hl
theorem PQ.px {g : GramM} {u : Bool} {L M0 : List Bool} {j : Nat} (x : ProdM) (h : PQ g u L M0 j) : PX g u L M0 j x 0 := ⟨h, fun i s hi => by omega⟩
theorem PX.skip {g : GramM} {u : Bool} {L M0 : List Bool} {j : Nat} {x : ProdM} {m : Nat} (h : PX g u L M0 j x m) {s : SymM} (hs : x.right[m]? = some s) (hn : s.kind = 1 → lv M0 s.sort = true) : PX g u L M0 j x (m + 1) := ⟨h.1, fun i y hi hy hk => by
  by_cases e : i = m
  · subst e; rw [hs] at hy; cases hy; exact hn hk
  · exact h.2 i y (by omega) hy hk⟩
theorem PX.done {g : GramM} {u : Bool} {L M0 : List Bool} {j : Nat} {x : ProdM} (h : PX g u L M0 j x x.right.length) (hx : g.prods[j]? = some x) : PQ g u L M0 (j + 1) := fun i y hi hy hu hl s hs hk => by
  by_cases e : i = j
  · subst e; rw [hx] at hy; cases hy
    obtain ⟨m, hm⟩ := List.mem_iff_getElem?.1 hs
    exact h.2 m s (List.getElem?_eq_some_iff.1 hm).1 hm hk
  · exact h.1 i y (by omega) hy hu hl s hs hk
theorem PQ.closed {g : GramM} {u : Bool} {L M0 : List Bool} (h : PQ g u L M0 g.prods.length) : ClosedU g u L M0 := fun x hx hu hl => by
  obtain ⟨i, hi⟩ := List.mem_iff_getElem?.1 hx
  exact h i x (List.getElem?_eq_some_iff.1 hi).1 hi hu hl

/-- What the reference's Reached's blocks hold. -/
structure RJ (g : GramM) (u : Bool) (L : List Bool) (w wr : World) (M : List Bool) : Prop where
  b0 : Blk wr w.heap.size 27 (gramC g)
  b1 : Blk wr (w.heap.size + 1) 4 (bools M)
  b2 : Blk wr (w.heap.size + 1 + 1 + 1) 4 (bools L)
  b : Below w.heap.size w wr
  len : M.length = g.sorts.length
  st : M[g.start.toNat]? = some true
  sound : SoundU g u L M
theorem RJ.below {g : GramM} {u : Bool} {L : List Bool} {w wr W : World} {M : List Bool} (h : RJ g u L w wr M) (hB : Below wr.heap.size wr W) : RJ g u L w W M :=
  ⟨h.b0.below hB h.b0.lt, h.b1.below hB h.b1.lt, h.b2.below hB h.b2.lt, h.b.trans (hB.mono h.b.size), h.len, h.st, h.sound⟩
theorem RJ.set {g : GramM} {u : Bool} {L : List Bool} {w wr : World} {M : List Bool} (h : RJ g u L w wr M) (k : Nat) (hk : RU g u L g.start.toNat k) : RJ g u L w (wr.setCell ⟨w.heap.size + 1, k, none⟩ (.bool true)) (M.set k true) :=
  ⟨h.b0.other (by show w.heap.size ≠ w.heap.size + 1; omega) _, by rw [← bools_set]; exact h.b1.set k _, h.b2.other (by show w.heap.size + 1 + 1 + 1 ≠ w.heap.size + 1; omega) _,
    h.b.setCell (p := ⟨w.heap.size + 1, k, none⟩) (by show w.heap.size ≤ w.heap.size + 1; omega) _, by rw [List.length_set]; exact h.len, by
      rw [List.getElem?_set]
      split
      · next e => subst e; have := (List.getElem?_eq_some_iff.1 h.st).1; simp [this]
      · exact h.st, fun i hi => by
      rw [List.getElem?_set] at hi
      split at hi
      · next e => subst e; exact hk
      · exact h.sound i hi⟩
theorem lv_set {M : List Bool} {k : Nat} {i : Int} (h : lv M i = true) : lv (M.set k true) i = true := by
  refine lv_some ?_
  have h := lv_true h
  rw [List.getElem?_set]
  split
  · next e => have := (List.getElem?_eq_some_iff.1 h).1; rw [e]; simp [this]
  · exact h
end Go.Proofs.YtodnlcbnbkkanaaGreatDoor
end
section
namespace Go.Proofs.YtodnlcbnbkkanaaGreatDoor
open Go Go.RowKit

/-- Marks behind a pointer to their slice. -/
structure MarkAt (Bx Bm : Nat) (M : List Bool) (W : World) : Prop where
  bx : Blk W Bx 31 #[.slice (some ⟨Bm, 0, none⟩) M.length M.length]
  bm : Blk W Bm 4 (bools M)
theorem MarkAt.below {Bx Bm : Nat} {M : List Bool} {W V : World} {N : Nat} (h : MarkAt Bx Bm M W) (hB : Below N W V) (h1 : Bx < N) (h2 : Bm < N) : MarkAt Bx Bm M V := ⟨h.bx.below hB h1, h.bm.below hB h2⟩
theorem MarkAt.set {Bx Bm : Nat} {M : List Bool} {W : World} (h : MarkAt Bx Bm M W) (hne : Bx ≠ Bm) (k : Nat) : MarkAt Bx Bm (M.set k true) (W.setCell ⟨Bm, k, none⟩ (.bool true)) :=
  ⟨by rw [List.length_set]; exact h.bx.other hne _, by rw [← bools_set]; exact h.bm.set k _⟩
theorem MarkAt.lt {Bx Bm : Nat} {M : List Bool} {W : World} (h : MarkAt Bx Bm M W) : Bx < W.heap.size ∧ Bm < W.heap.size := ⟨h.bx.lt, h.bm.lt⟩

/-- What a closure that marks a sort, if nothing stands against it, leaves. -/
def MarkPost (w : World) (Bm k : Nat) (r v : Bool) (e : Ending) (w' : World) : Prop := ∃ w3, Below w.heap.size w w3 ∧ e = .returned (.bool (!r && !v)) ∧ w' = if r then w3 else w3.setCell ⟨Bm, k, none⟩ (.bool true)
/-- A sort without a mark. -/
def lacksQ (M : List Bool) (s : SymM) : Bool := s.kind == 1 && !lv M s.sort
/-- What can't be nothing. -/
def filledQ (M : List Bool) (s : SymM) : Bool := s.kind == 0 || !lv M s.sort

set_option maxRecDepth 100000 in
set_option maxHeartbeats 1000000 in
/-- productive's inner closure. -/
theorem f71_any (s : SymM) (Bx Bm : Nat) (M : List Bool) (w : World) (h : MarkAt Bx Bm M w) (hM : M.length ≤ 1000) (hs : s.kind = 1 → ∃ k : Nat, s.sort = k ∧ k < M.length) :
    Calls Tryz.prog 71 #[symV s, .pointer (some ⟨Bx, 0, none⟩)] w fun e w' => e = .returned (.bool (lacksQ M s)) ∧ Below w.heap.size w w' := by
  have hB : Hid (Below w.heap.size w (w.alloc (.cells (symC s) 60))) := (Below.refl _ _).alloc (Nat.le_refl _) _
  have cx := h.bx.cell 0
  have lx := h.bx.lt
  have lm := h.bm.lt
  have HS := Lib.hid hs
  have HC := Lib.hid h
  obtain ⟨sk, ss, so⟩ := s
  unfold symV symC lacksQ at *
  dsimp only at *
  clear h hs
  obtain ⟨n, hn⟩ : ∃ n, n = M.length := ⟨_, rfl⟩
  rw [← hn] at cx hM
  have HN := Lib.hid hn
  clear hn
  cases k1 : (sk == 1) with
  | false =>
    clear HS
    go_enter Tryz.func71, Tryz.ntmps71
    go_wp2
    go_ret
    exact ⟨rfl, hB.out⟩
  | true =>
    obtain ⟨j, rfl, hj⟩ := HS.out (by simpa using k1)
    have y0 := HC.out.bm.cell j
    rw [bools_at M j hj] at y0
    obtain ⟨v, hv⟩ : ∃ v, v = lv M (j : Int) := ⟨_, rfl⟩
    rw [← hv] at y0 ⊢
    have z3 : (j : Int) < (n : Int) := by have := HN.out; omega
    have z4 : (0 : Int) ≤ (j : Int) := by omega
    clear hv hj HS HC
    go_enter Tryz.func71, Tryz.ntmps71
    go_wp2
    go_ret
    exact ⟨by cases v <;> rfl, hB.out⟩

set_option maxRecDepth 100000 in
set_option maxHeartbeats 1000000 in
/-- living's inner closure. -/
theorem f111_any (s : SymM) (Bx Bm : Nat) (M : List Bool) (w : World) (h : MarkAt Bx Bm M w) (hM : M.length ≤ 1000) (hs : s.kind = 1 → ∃ k : Nat, s.sort = k ∧ k < M.length) :
    Calls Tryz.prog 111 #[symV s, .pointer (some ⟨Bx, 0, none⟩)] w fun e w' => e = .returned (.bool (lacksQ M s)) ∧ Below w.heap.size w w' := by
  have hB : Hid (Below w.heap.size w (w.alloc (.cells (symC s) 60))) := (Below.refl _ _).alloc (Nat.le_refl _) _
  have cx := h.bx.cell 0
  have lx := h.bx.lt
  have lm := h.bm.lt
  have HS := Lib.hid hs
  have HC := Lib.hid h
  obtain ⟨sk, ss, so⟩ := s
  unfold symV symC lacksQ at *
  dsimp only at *
  clear h hs
  obtain ⟨n, hn⟩ : ∃ n, n = M.length := ⟨_, rfl⟩
  rw [← hn] at cx hM
  have HN := Lib.hid hn
  clear hn
  cases k1 : (sk == 1) with
  | false =>
    clear HS
    go_enter Tryz.func111, Tryz.ntmps111
    go_wp2
    go_ret
    exact ⟨rfl, hB.out⟩
  | true =>
    obtain ⟨j, rfl, hj⟩ := HS.out (by simpa using k1)
    have y0 := HC.out.bm.cell j
    rw [bools_at M j hj] at y0
    obtain ⟨v, hv⟩ : ∃ v, v = lv M (j : Int) := ⟨_, rfl⟩
    rw [← hv] at y0 ⊢
    have z3 : (j : Int) < (n : Int) := by have := HN.out; omega
    have z4 : (0 : Int) ≤ (j : Int) := by omega
    clear hv hj HS HC
    go_enter Tryz.func111, Tryz.ntmps111
    go_wp2
    go_ret
    exact ⟨by cases v <;> rfl, hB.out⟩

set_option maxRecDepth 100000 in
set_option maxHeartbeats 1000000 in
/-- nullable's inner closure. -/
theorem f75n_any (s : SymM) (Bx Bm : Nat) (M : List Bool) (w : World) (h : MarkAt Bx Bm M w) (hM : M.length ≤ 1000) (hs : s.kind ≠ 0 → ∃ k : Nat, s.sort = k ∧ k < M.length) :
    Calls Tryz.prog 75 #[symV s, .pointer (some ⟨Bx, 0, none⟩)] w fun e w' => e = .returned (.bool (filledQ M s)) ∧ Below w.heap.size w w' := by
  have hB : Hid (Below w.heap.size w (w.alloc (.cells (symC s) 60))) := (Below.refl _ _).alloc (Nat.le_refl _) _
  have cx := h.bx.cell 0
  have lx := h.bx.lt
  have lm := h.bm.lt
  have HS := Lib.hid hs
  have HC := Lib.hid h
  obtain ⟨sk, ss, so⟩ := s
  unfold symV symC filledQ at *
  dsimp only at *
  clear h hs
  obtain ⟨n, hn⟩ : ∃ n, n = M.length := ⟨_, rfl⟩
  rw [← hn] at cx hM
  have HN := Lib.hid hn
  clear hn
  cases k1 : (sk == 0) with
  | true =>
    clear HS
    go_enter Tryz.func75, Tryz.ntmps75
    go_wp2
    go_ret
    exact ⟨rfl, hB.out⟩
  | false =>
    obtain ⟨j, rfl, hj⟩ := HS.out (by simpa using k1)
    have y0 := HC.out.bm.cell j
    rw [bools_at M j hj] at y0
    obtain ⟨v, hv⟩ : ∃ v, v = lv M (j : Int) := ⟨_, rfl⟩
    rw [← hv] at y0 ⊢
    have z3 : (j : Int) < (n : Int) := by have := HN.out; omega
    have z4 : (0 : Int) ≤ (j : Int) := by omega
    clear hv hj HS HC
    go_enter Tryz.func75, Tryz.ntmps75
    go_wp2
    go_ret
    exact ⟨by cases v <;> rfl, hB.out⟩

set_option maxRecDepth 100000 in
set_option maxHeartbeats 2000000 in
/-- productive's closure. -/
theorem f69_any (x : ProdM) (Bx Bm : Nat) (M : List Bool) (w : World) (h : MarkAt Bx Bm M w) (hM : M.length ≤ 1000) (hx : ProdIn w x) (hr : x.right.length ≤ 30) (hs : ∀ s, s ∈ x.right → s.kind = 1 → ∃ k : Nat, s.sort = k ∧ k < M.length) (k : Nat) (hk : x.left = k) (hkl : k < M.length) :
    Calls Tryz.prog 69 #[prodV x, .pointer (some ⟨Bx, 0, none⟩)] w (MarkPost w Bm k (x.right.any (lacksQ M)) (lv M k)) := by
  have hB1 : Below w.heap.size w (w.alloc (.cells (prodC x) 65)) := (Below.refl _ _).alloc (Nat.le_refl _) _
  obtain ⟨l1, l2⟩ := h.lt
  have HC := Lib.hid (containsSym_any x.ra x.rc x.right (lacksQ M) 71 #[.pointer (some ⟨Bx, 0, none⟩)] (fun _ _ => by kernel_rfl) _ (hx.below hB1) (Nat.le_trans hr (by omega)) (fun s hsx W hW =>
    f71_any s Bx Bm M W ((h.below hB1 l1 l2).below hW (Nat.lt_of_lt_of_le l1 hB1.size) (Nat.lt_of_lt_of_le l2 hB1.size)) hM (hs s hsx)))
  have HB := Lib.hid hB1
  have HM := Lib.hid h
  have HP := Lib.hid (Blk.new w 65 (prodC x))
  have HMk := fun w' (h : Blk w' Bm 4 (bools M)) => mark_any M Bm k M.length M.length w' h hkl (Nat.le_refl _) (Nat.le_trans hM (by omega))
  obtain ⟨n, hn⟩ : ∃ n, n = M.length := ⟨_, rfl⟩
  have HN := Lib.hid hn
  have cx := h.bx.cell 0
  rw [← hn] at cx HMk
  have HMk := Lib.hid HMk
  have HE : Hid (prodC x = #[.int .i64 (k : Int), .slice x.ra x.right.length x.rc, .string x.cons, .int .i64 x.role, .bool x.prefer, .bool x.avoid, .int .i64 x.frm]) := Lib.hid (by rw [← hk]; rfl)
  unfold prodV
  rw [HE.out] at HC HB HP ⊢
  clear hB1 h hx hs hk hn cx hkl hM
  generalize x.right.any (lacksQ M) = r at *
  generalize lv M k = v at *
  go_enter Tryz.func69, Tryz.ntmps69
  go_wp2_with fail
  refine HC.out.mono ?_
  rintro e w3 ⟨rfl, hB3⟩
  have HB3 := Lib.hid (HB.out.trans (hB3.mono HB.out.size))
  have HP3 := Lib.hid (HP.out.below hB3 HP.out.lt)
  have HM3 := Lib.hid (HM.out.below HB3.out l1 l2)
  have cx := HM3.out.bx.cell 0
  rw [← HN.out] at cx
  obtain ⟨c0, c1, c2, c3, c4, c5, c6⟩ := cells7 HP3.out
  have l3 := HP3.out.lt
  have lx := HM3.out.bx.lt
  clear HC hB3 HP
  cases r with
  | true =>
    go_wp2
    go_ret
    exact ⟨w3, HB3.out, by rfl, by rw [if_pos rfl]⟩
  | false =>
    go_wp2_with fail
    refine (HMk.out _ HM3.out.bm).mono ?_
    rintro e w4 ⟨rfl, rfl⟩
    go_wp2
    go_ret
    exact ⟨w3, HB3.out, by rfl, by rw [if_neg (by decide)]⟩

set_option maxRecDepth 100000 in
set_option maxHeartbeats 2000000 in
/-- nullable's closure. -/
theorem f74_any (x : ProdM) (Bx Bm : Nat) (M : List Bool) (w : World) (h : MarkAt Bx Bm M w) (hM : M.length ≤ 1000) (hx : ProdIn w x) (hr : x.right.length ≤ 30) (hs : ∀ s, s ∈ x.right → s.kind ≠ 0 → ∃ k : Nat, s.sort = k ∧ k < M.length) (k : Nat) (hk : x.left = k) (hkl : k < M.length) :
    Calls Tryz.prog 74 #[prodV x, .pointer (some ⟨Bx, 0, none⟩)] w (MarkPost w Bm k (x.right.any (filledQ M)) (lv M k)) := by
  have hB1 : Below w.heap.size w (w.alloc (.cells (prodC x) 65)) := (Below.refl _ _).alloc (Nat.le_refl _) _
  obtain ⟨l1, l2⟩ := h.lt
  have HC := Lib.hid (containsSym_any x.ra x.rc x.right (filledQ M) 75 #[.pointer (some ⟨Bx, 0, none⟩)] (fun _ _ => by kernel_rfl) _ (hx.below hB1) (Nat.le_trans hr (by omega)) (fun s hsx W hW =>
    f75n_any s Bx Bm M W ((h.below hB1 l1 l2).below hW (Nat.lt_of_lt_of_le l1 hB1.size) (Nat.lt_of_lt_of_le l2 hB1.size)) hM (hs s hsx)))
  have HB := Lib.hid hB1
  have HM := Lib.hid h
  have HP := Lib.hid (Blk.new w 65 (prodC x))
  have HMk := fun w' (h : Blk w' Bm 4 (bools M)) => mark_any M Bm k M.length M.length w' h hkl (Nat.le_refl _) (Nat.le_trans hM (by omega))
  obtain ⟨n, hn⟩ : ∃ n, n = M.length := ⟨_, rfl⟩
  have HN := Lib.hid hn
  have cx := h.bx.cell 0
  rw [← hn] at cx HMk
  have HMk := Lib.hid HMk
  have HE : Hid (prodC x = #[.int .i64 (k : Int), .slice x.ra x.right.length x.rc, .string x.cons, .int .i64 x.role, .bool x.prefer, .bool x.avoid, .int .i64 x.frm]) := Lib.hid (by rw [← hk]; rfl)
  unfold prodV
  rw [HE.out] at HC HB HP ⊢
  clear hB1 h hx hs hk hn cx hkl hM
  generalize x.right.any (filledQ M) = r at *
  generalize lv M k = v at *
  go_enter Tryz.func74, Tryz.ntmps74
  go_wp2_with fail
  refine HC.out.mono ?_
  rintro e w3 ⟨rfl, hB3⟩
  have HB3 := Lib.hid (HB.out.trans (hB3.mono HB.out.size))
  have HP3 := Lib.hid (HP.out.below hB3 HP.out.lt)
  have HM3 := Lib.hid (HM.out.below HB3.out l1 l2)
  have cx := HM3.out.bx.cell 0
  rw [← HN.out] at cx
  obtain ⟨c0, c1, c2, c3, c4, c5, c6⟩ := cells7 HP3.out
  have l3 := HP3.out.lt
  have lx := HM3.out.bx.lt
  clear HC hB3 HP
  cases r with
  | true =>
    go_wp2
    go_ret
    exact ⟨w3, HB3.out, by rfl, by rw [if_pos rfl]⟩
  | false =>
    go_wp2_with fail
    refine (HMk.out _ HM3.out.bm).mono ?_
    rintro e w4 ⟨rfl, rfl⟩
    go_wp2
    go_ret
    exact ⟨w3, HB3.out, by rfl, by rw [if_neg (by decide)]⟩
end Go.Proofs.YtodnlcbnbkkanaaGreatDoor
end
section
namespace Go.Proofs.YtodnlcbnbkkanaaGreatDoor
open Go Go.RowKit

theorem OwnP.put {N : Nat} {w : World} {a : Option Addr} {c : Nat} {l : List ProdM} (h : OwnP N w a c l) {B k : Nat} (hB : B < N) (v : Value) : OwnP N (w.setCell ⟨B, k, none⟩ v) a c l := by
  refine ⟨?_, h.cap⟩
  rcases h.row with h | ⟨B', cs, h1, h2, hb, hr⟩
  · exact .inl h
  · exact .inr ⟨B', cs, h1, h2, hb.other (by show B' ≠ B; omega) _, hr⟩
/-- What a question that marks sorts holds, while it is settled. -/
structure MJ (g : GramM) (S : List Bool → Prop) (w0 : World) (N Bx Bm : Nat) (a : Option Addr) (c : Nat) (M : List Bool) (W : World) : Prop where
  mark : MarkAt Bx Bm M W
  len : M.length = g.sorts.length
  snd : S M
  low : Below w0.heap.size w0 W
  own : OwnP N W a c (mkL g)
  hx : w0.heap.size ≤ Bx ∧ Bx < N ∧ w0.heap.size ≤ Bm ∧ Bm < N ∧ Bx ≠ Bm
section
variable {g : GramM} {S : List Bool → Prop} {w0 : World} {N Bx Bm : Nat} {a : Option Addr} {c : Nat} {M : List Bool} {W : World}
theorem MJ.below {V : World} (h : MJ g S w0 N Bx Bm a c M W) (hB : Below W.heap.size W V) : MJ g S w0 N Bx Bm a c M V :=
  ⟨h.mark.below hB h.mark.lt.1 h.mark.lt.2, h.len, h.snd, h.low.trans (hB.mono h.low.size), h.own.below hB (Nat.le_refl _), h.hx⟩
theorem MJ.set (h : MJ g S w0 N Bx Bm a c M W) (k : Nat) (hs : S (M.set k true)) : MJ g S w0 N Bx Bm a c (M.set k true) (W.setCell ⟨Bm, k, none⟩ (.bool true)) :=
  ⟨h.mark.set h.hx.2.2.2.2 k, by rw [List.length_set]; exact h.len, hs, h.low.setCell (p := ⟨Bm, k, none⟩) h.hx.2.2.1 _, h.own.put h.hx.2.2.2.1 _, h.hx⟩
theorem MJ.prods (h : MJ g S w0 N Bx Bm a c M W) (hg : GIn w0 g) : RowProd W a (mkL g) := h.own.rowProd fun x hx => (RowOf.mem hg.prods (mkL_mem.1 hx).1).below h.low
end
theorem set_true_same {M : List Bool} {k : Nat} (hk : k < M.length) (h : lv M k = true) : M.set k true = M := by
  refine set_same ?_
  have := lv_true h
  rwa [Int.toNat_natCast] at this
theorem lv_false_at {M : List Bool} {k : Nat} (hk : k < M.length) (h : lv M k = false) : M[k]? = some false := by
  unfold lv at h
  rw [Int.toNat_natCast, List.getD_eq_getElem?_getD, List.getElem?_eq_getElem hk] at h
  rw [List.getElem?_eq_getElem hk]
  simpa using h
theorem lv_set_self {M : List Bool} {k : Nat} (hk : k < M.length) : lv (M.set k true) k = true := lv_some (by rw [Int.toNat_natCast]; simp [hk])
/-- A closure that marks by q goes on as settle wants it. -/
theorem marks_steps {g : GramM} (hm : MayB g) {S : List Bool → Prop} {w0 : World} (hg : GIn w0 g) {N Bx Bm : Nat} {a : Option Addr} {c : Nat} {K : Nat} {q : List Bool → SymM → Bool}
    (hK : ∀ (x : ProdM) (M : List Bool) (w : World), x ∈ mkL g → MarkAt Bx Bm M w → M.length = g.sorts.length → ProdIn w x → ∀ k : Nat, x.left = k → k < M.length → Calls Tryz.prog K #[prodV x, .pointer (some ⟨Bx, 0, none⟩)] w (MarkPost w Bm k (x.right.any (q M)) (lv M k)))
    (hS : ∀ (x : ProdM) (M : List Bool), x ∈ mkL g → S M → M.length = g.sorts.length → x.right.any (q M) = false → S (M.set x.left.toNat true)) :
    StepsBy K #[.pointer (some ⟨Bx, 0, none⟩)] (mkL g) (MJ g S w0 N Bx Bm a c) (fun x M => x.right.any (q M) = false → lv M x.left = true) (fun M => M.count false) := by
  intro M W x hx hI
  obtain ⟨k, hk, hkn⟩ := hm.left x (mkL_mem.1 hx).1
  have hkl : k < M.length := by rw [hI.len]; exact hkn
  refine (hK x M W hx hI.mark hI.len ((RowOf.mem hg.prods (mkL_mem.1 hx).1).below hI.low) k hk hkl).mono ?_
  rintro e w' ⟨w3, hB, rfl, hw⟩
  have hI3 := hI.below hB
  cases hr : x.right.any (q M) with
  | true =>
    rw [hr, if_pos rfl] at hw
    subst hw
    exact ⟨_, M, rfl, hI3, fun _ => ⟨rfl, fun h => by rw [hr] at h; cases h⟩, fun h => by simp at h⟩
  | false =>
    rw [hr, if_neg (by decide)] at hw
    subst hw
    have hs : S (M.set k true) := by
      have := hS x M hx hI.snd hI.len hr
      rwa [hk, Int.toNat_natCast] at this
    have hI4 := hI3.set k hs
    cases hv : lv M k with
    | true =>
      have e := set_true_same hkl hv
      rw [e] at hI4
      exact ⟨_, M, rfl, hI4, fun _ => ⟨rfl, fun _ => by rw [hk]; exact hv⟩, fun h => by simp at h⟩
    | false =>
      exact ⟨_, M.set k true, rfl, hI4, fun h => by simp at h, fun _ => count_set (lv_false_at hkl hv)⟩
/-- What marking answers: a slice of marks of one's own. -/
def MarksPost (w : World) (R : List Bool → Prop) (e : Ending) (w' : World) : Prop := ∃ (M : List Bool) (B : Nat), R M ∧ e = .returned (.slice (some ⟨B, 0, none⟩) M.length M.length) ∧ w.heap.size ≤ B ∧ Blk w' B 4 (bools M) ∧ Below w.heap.size w w'
theorem any_lacks {M : List Bool} {x : ProdM} : x.right.any (lacksQ M) = !(sortsB (lv M) x) := by
  unfold sortsB
  rw [← any_not]
  simp only [Bool.not_not]
  congr 1
  funext s
  unfold lacksQ sortB
  cases (s.kind == 1) <;> simp

theorem productive_any_sound {g : GramM} (_hm : MayB g) {x : ProdM} {M : List Bool} (hx : x ∈ mkL g) (hS : Sound g M) (_ : M.length = g.sorts.length) (hq : x.right.any (lacksQ M) = false) : Sound g (M.set x.left.toNat true) :=
  sound_set hS (mkL_mem.1 hx).1 (by
    unfold okP
    have h1 := (mkL_mem.1 hx).2
    rw [any_lacks] at hq
    have : (x.role == 11) = false := by simpa using h1
    rw [this]
    simpa using hq)
theorem productive_any_start (g : GramM) : Sound g (List.replicate g.sorts.length false) := fun k h => by
  rw [List.getElem?_replicate] at h
  split at h <;> simp at h
theorem productive_any_end {g : GramM} (_hm : MayB g) {M : List Bool} (h1 : M.length = g.sorts.length) (h2 : Sound g M) (h3 : ∀ x, x ∈ mkL g → x.right.any (lacksQ M) = false → lv M x.left = true) : Live g M :=
  live_of h1 h2 fun x hx hok => by
    unfold okP at hok
    simp only [Bool.and_eq_true, Bool.not_eq_true', beq_eq_false_iff_ne] at hok
    exact h3 x (mkL_mem.2 ⟨hx, hok.1⟩) (by rw [any_lacks, hok.2]; rfl)

set_option maxRecDepth 100000 in
set_option maxHeartbeats 4000000 in
/-- productive: which sorts have a text. -/
theorem productive_any (g : GramM) (hm : MayB g) (hf : Fit g) (w : World) (hg : GIn w g) : Calls Tryz.prog 46 #[gramV g] w (MarksPost w (Live g)) := by
  have hmk := fun w' => make_bools g.sorts.length hm.sorts2 w'
  have hb0 := Blk.new w 27 (gramC g)
  obtain ⟨W1, hW1⟩ : ∃ W1, W1 = ((w.alloc (.cells (gramC g) 27)).alloc (.cells (bools (List.replicate g.sorts.length false)) 4)).alloc (.cells #[.slice (some ⟨w.heap.size + 1, 0, none⟩) g.sorts.length g.sorts.length] 31) := ⟨_, rfl⟩
  have hb1 := Blk.new (w.alloc (.cells (gramC g) 27)) 4 (bools (List.replicate g.sorts.length false))
  have hb2 := Blk.new ((w.alloc (.cells (gramC g) 27)).alloc (.cells (bools (List.replicate g.sorts.length false)) 4)) 31 #[.slice (some ⟨w.heap.size + 1, 0, none⟩) g.sorts.length g.sorts.length]
  simp only [World.size_alloc] at hb1 hb2
  have hs1 : W1.heap.size = w.heap.size + 3 := by rw [hW1]; simp
  have hB1 : Below w.heap.size w W1 := by rw [hW1]; exact (((Below.refl _ w).alloc (Nat.le_refl _) _).alloc (by simp) _).alloc (by simp; omega) _
  have k0 : Blk W1 w.heap.size 27 (gramC g) := by rw [hW1]; exact (hb0.alloc _).alloc _
  have kM : MarkAt (w.heap.size + 1 + 1) (w.heap.size + 1) (List.replicate g.sorts.length false) W1 := by rw [hW1]; exact ⟨by rw [List.length_replicate]; exact hb2, hb1.alloc _⟩
  have HMk := Lib.hid (making_any g hm W1 (hg.below hB1))
  have HSet := Lib.hid (fun (a : Option Addr) (c : Nat) (W : World) (hW : Below W1.heap.size W1 W) (ho : OwnP W1.heap.size W a c (mkL g)) =>
    settle_any (mkL g) a c 69 #[.pointer (some ⟨w.heap.size + 1 + 1, 0, none⟩)] (fun _ _ => by kernel_rfl) (MJ g (Sound g) w W1.heap.size (w.heap.size + 1 + 1) (w.heap.size + 1) a c) _ _ (Nat.le_trans (mkL_len g) (Nat.le_trans hm.prods (by omega)))
      (fun M W h => h.prods hg) (fun M W V h hB => h.below hB) (marks_steps hm hg (fun x M w hx hM hl hi k hk hkl => f69_any x _ _ M w hM (by rw [hl]; exact hm.sorts2) hi (hm.right x (mkL_mem.1 hx).1) (fun s hs hk => by rw [hl]; exact hm.sym x (mkL_mem.1 hx).1 s hs hk) k hk hkl) (fun x M hx hS hl hq => productive_any_sound hm hx hS hl hq)) (List.replicate g.sorts.length false) W
      ⟨kM.below hW (by rw [hs1]; omega) (by rw [hs1]; omega), by simp, productive_any_start g, hB1.trans (hW.mono hB1.size), ho, by omega, by rw [hs1]; omega, by omega, by rw [hs1]; omega, by omega⟩)
  have HEnd : Hid (∀ M, M.length = g.sorts.length → Sound g M → (∀ x, x ∈ mkL g → x.right.any (lacksQ M) = false → lv M x.left = true) → Live g M) := Lib.hid fun M h1 h2 h3 => productive_any_end hm h1 h2 h3
  have HK0 := Lib.hid k0
  have HW1 := Lib.hid hW1
  have HB1 := Lib.hid hB1
  have Hs1 := Lib.hid hs1
  obtain ⟨n, hn⟩ : ∃ n, n = g.sorts.length := ⟨_, rfl⟩
  have N1 := Lib.hid hn
  have hn1 := hm.sorts2
  rw [← hn] at hn1 hmk HW1
  clear hm hf hg hb0 hb1 hb2 k0 kM hB1 hs1 hW1
  unfold gramV gramC at *
  rw [← hn] at HW1 HK0 HMk HEnd ⊢
  clear hn
  obtain ⟨RL, hRL⟩ : ∃ RL : List Bool, RL = List.replicate n false := ⟨_, rfl⟩
  rw [← hRL] at hmk HW1
  clear hRL
  go_enter Tryz.func46, Tryz.ntmps46
  go_wp2_with fail
  rw [← HW1.out]
  refine HMk.out.mono ?_
  rintro e w3 ⟨a, c, rfl, hO, hB3⟩
  have HC := Lib.hid (HSet.out a c w3 hB3 hO)
  clear hO hB3 HSet HMk
  go_wp2_with fail
  refine HC.out.mono ?_
  rintro e w4 ⟨rfl, M, hJ, hq⟩
  have HR := Lib.hid (HEnd.out M (by rw [hJ.len, N1.out]) hJ.snd hq)
  have HJ := Lib.hid hJ
  have cx := hJ.mark.bx.cell 0
  have lx := hJ.mark.bx.lt
  clear hJ hq HC HEnd
  go_wp2
  go_ret
  exact ⟨M, w.heap.size + 1, HR.out, rfl, by omega, HJ.out.mark.bm, HJ.out.low⟩

/-- Marks of sorts of which the empty text is one. -/
def SoundE (g : GramM) (M : List Bool) : Prop := ∀ k : Nat, M[k]? = some true → TX g k []
def NullP (g : GramM) (M : List Bool) : Prop := M.length = g.sorts.length ∧ ∀ k : Nat, M[k]? = some true ↔ TX g k []
theorem NullP.unique {g : GramM} {L L' : List Bool} (h : NullP g L) (h' : NullP g L') : L = L' := by
  refine List.ext_getElem (h.1.trans h'.1.symm) fun k h1 h2 => ?_
  have a := (h.2 k).trans (h'.2 k).symm
  rw [List.getElem?_eq_getElem h1, List.getElem?_eq_getElem h2] at a
  simp only [Option.some.injEq] at a
  exact Bool.eq_iff_iff.2 a
theorem kind_one {g : GramM} (hm : MayB g) {x : ProdM} (hx : x ∈ g.prods) {s : SymM} (hs : s ∈ x.right) (h : s.kind ≠ 0) : s.kind = 1 := (hm.kind x hx s hs).resolve_left h
theorem filled_txs {g : GramM} {M : List Bool} (hS : SoundE g M) : ∀ (l : List SymM), (∀ s, s ∈ l → s.kind = 0 ∨ s.kind = 1) → l.any (filledQ M) = false → TXs (TX g) l [] := by
  intro l
  induction l with
  | nil => intro _ _; rfl
  | cons s r ih =>
    intro hk h
    rw [List.any_cons, Bool.or_eq_false_iff] at h
    refine ⟨[], [], rfl, ?_, ih (fun s hs => hk s (by simp [hs])) h.2⟩
    have h1 := h.1
    unfold filledQ at h1
    rw [Bool.or_eq_false_iff] at h1
    have h0 : s.kind ≠ 0 := by simpa using h1.1
    exact .inl ⟨(hk s (by simp)).resolve_left h0, hS _ (lv_true (by simpa using h1.2))⟩
theorem nullable_any_sound {g : GramM} (hm : MayB g) {x : ProdM} {M : List Bool} (hx : x ∈ mkL g) (hS : SoundE g M) (_ : M.length = g.sorts.length) (hq : x.right.any (filledQ M) = false) : SoundE g (M.set x.left.toNat true) := fun k hk => by
  rw [List.getElem?_set] at hk
  split at hk
  · next e =>
    subst e
    exact TX.mk (mkL_mem.1 hx).1 (mkL_mem.1 hx).2 (filled_txs hS _ (hm.kind x (mkL_mem.1 hx).1) hq)
  · exact hS k hk
theorem nullable_any_start (g : GramM) : SoundE g (List.replicate g.sorts.length false) := fun k h => by
  rw [List.getElem?_replicate] at h
  split at h <;> simp at h
theorem txs_nil {T : Nat → List UInt8 → Prop} : ∀ {l : List SymM}, TXs T l [] → ∀ s, s ∈ l → s.kind = 1 ∧ T s.sort.toNat [] := by
  intro l
  induction l with
  | nil => intro _ s hs; cases hs
  | cons y r ih =>
    rintro ⟨a, b, e, h1, h2⟩ s hs
    obtain ⟨rfl, rfl⟩ : a = [] ∧ b = [] := by simpa using e.symm
    rcases List.mem_cons.1 hs with rfl | hs
    · rcases h1 with h1 | ⟨_, b, h1, _⟩
      · exact h1
      · cases h1
    · exact ih h2 s hs
theorem nullable_any_end {g : GramM} (_hm : MayB g) {M : List Bool} (h1 : M.length = g.sorts.length) (h2 : SoundE g M) (h3 : ∀ x, x ∈ mkL g → x.right.any (filledQ M) = false → lv M x.left = true) : NullP g M := by
  refine ⟨h1, fun k => ⟨h2 k, fun hk => ?_⟩⟩
  refine TX.ind (P := fun k t => t = [] → M[k]? = some true) (fun x t hx hr _ h e => ?_) hk rfl
  subst e
  refine lv_true (h3 x (mkL_mem.2 ⟨hx, hr⟩) ?_)
  rw [List.any_eq_false]
  intro s hs hf
  obtain ⟨hk, h⟩ := txs_nil h s hs
  unfold filledQ at hf
  rw [hk, lv_some (h rfl)] at hf
  simp at hf

set_option maxRecDepth 100000 in
set_option maxHeartbeats 4000000 in
/-- nullable: of which sorts the empty text is one. -/
theorem nullable_any (g : GramM) (hm : MayB g) (hf : Fit g) (w : World) (hg : GIn w g) : Calls Tryz.prog 48 #[gramV g] w (MarksPost w (NullP g)) := by
  have hmk := fun w' => make_bools g.sorts.length hm.sorts2 w'
  have hb0 := Blk.new w 27 (gramC g)
  obtain ⟨W1, hW1⟩ : ∃ W1, W1 = ((w.alloc (.cells (gramC g) 27)).alloc (.cells (bools (List.replicate g.sorts.length false)) 4)).alloc (.cells #[.slice (some ⟨w.heap.size + 1, 0, none⟩) g.sorts.length g.sorts.length] 31) := ⟨_, rfl⟩
  have hb1 := Blk.new (w.alloc (.cells (gramC g) 27)) 4 (bools (List.replicate g.sorts.length false))
  have hb2 := Blk.new ((w.alloc (.cells (gramC g) 27)).alloc (.cells (bools (List.replicate g.sorts.length false)) 4)) 31 #[.slice (some ⟨w.heap.size + 1, 0, none⟩) g.sorts.length g.sorts.length]
  simp only [World.size_alloc] at hb1 hb2
  have hs1 : W1.heap.size = w.heap.size + 3 := by rw [hW1]; simp
  have hB1 : Below w.heap.size w W1 := by rw [hW1]; exact (((Below.refl _ w).alloc (Nat.le_refl _) _).alloc (by simp) _).alloc (by simp; omega) _
  have k0 : Blk W1 w.heap.size 27 (gramC g) := by rw [hW1]; exact (hb0.alloc _).alloc _
  have kM : MarkAt (w.heap.size + 1 + 1) (w.heap.size + 1) (List.replicate g.sorts.length false) W1 := by rw [hW1]; exact ⟨by rw [List.length_replicate]; exact hb2, hb1.alloc _⟩
  have HMk := Lib.hid (making_any g hm W1 (hg.below hB1))
  have HSet := Lib.hid (fun (a : Option Addr) (c : Nat) (W : World) (hW : Below W1.heap.size W1 W) (ho : OwnP W1.heap.size W a c (mkL g)) =>
    settle_any (mkL g) a c 74 #[.pointer (some ⟨w.heap.size + 1 + 1, 0, none⟩)] (fun _ _ => by kernel_rfl) (MJ g (SoundE g) w W1.heap.size (w.heap.size + 1 + 1) (w.heap.size + 1) a c) _ _ (Nat.le_trans (mkL_len g) (Nat.le_trans hm.prods (by omega)))
      (fun M W h => h.prods hg) (fun M W V h hB => h.below hB) (marks_steps hm hg (fun x M w hx hM hl hi k hk hkl => f74_any x _ _ M w hM (by rw [hl]; exact hm.sorts2) hi (hm.right x (mkL_mem.1 hx).1) (fun s hs hk => by rw [hl]; exact hm.sym x (mkL_mem.1 hx).1 s hs (kind_one hm (mkL_mem.1 hx).1 hs hk)) k hk hkl) (fun x M hx hS hl hq => nullable_any_sound hm hx hS hl hq)) (List.replicate g.sorts.length false) W
      ⟨kM.below hW (by rw [hs1]; omega) (by rw [hs1]; omega), by simp, nullable_any_start g, hB1.trans (hW.mono hB1.size), ho, by omega, by rw [hs1]; omega, by omega, by rw [hs1]; omega, by omega⟩)
  have HEnd : Hid (∀ M, M.length = g.sorts.length → SoundE g M → (∀ x, x ∈ mkL g → x.right.any (filledQ M) = false → lv M x.left = true) → NullP g M) := Lib.hid fun M h1 h2 h3 => nullable_any_end hm h1 h2 h3
  have HK0 := Lib.hid k0
  have HW1 := Lib.hid hW1
  have HB1 := Lib.hid hB1
  have Hs1 := Lib.hid hs1
  obtain ⟨n, hn⟩ : ∃ n, n = g.sorts.length := ⟨_, rfl⟩
  have N1 := Lib.hid hn
  have hn1 := hm.sorts2
  rw [← hn] at hn1 hmk HW1
  clear hm hf hg hb0 hb1 hb2 k0 kM hB1 hs1 hW1
  unfold gramV gramC at *
  rw [← hn] at HW1 HK0 HMk HEnd ⊢
  clear hn
  obtain ⟨RL, hRL⟩ : ∃ RL : List Bool, RL = List.replicate n false := ⟨_, rfl⟩
  rw [← hRL] at hmk HW1
  clear hRL
  go_enter Tryz.func48, Tryz.ntmps48
  go_wp2_with fail
  rw [← HW1.out]
  refine HMk.out.mono ?_
  rintro e w3 ⟨a, c, rfl, hO, hB3⟩
  have HC := Lib.hid (HSet.out a c w3 hB3 hO)
  clear hO hB3 HSet HMk
  go_wp2_with fail
  refine HC.out.mono ?_
  rintro e w4 ⟨rfl, M, hJ, hq⟩
  have HR := Lib.hid (HEnd.out M (by rw [hJ.len, N1.out]) hJ.snd hq)
  have HJ := Lib.hid hJ
  have cx := hJ.mark.bx.cell 0
  have lx := hJ.mark.bx.lt
  clear hJ hq HC HEnd
  go_wp2
  go_ret
  exact ⟨M, w.heap.size + 1, HR.out, rfl, by omega, HJ.out.mark.bm, HJ.out.low⟩
end Go.Proofs.YtodnlcbnbkkanaaGreatDoor
end
section
namespace Go.Proofs.YtodnlcbnbkkanaaGreatDoor
open Go Go.RowKit

/-- Marks of sorts that the Start leads to. -/
def SoundR (g : GramM) (M : List Bool) : Prop := M[g.start.toNat]? = some true ∧ SoundU g false [] M
/-- How far reached's closure has come over a production's symbols: what is new. -/
structure RL (g : GramM) (x : ProdM) (k : Nat) (M0 : List Bool) (j : Nat) (news : Bool) (M : List Bool) : Prop where
  no : news = false → M = M0 ∧ (lv M0 k = true → ∀ (i : Nat) (s : SymM), i < j → x.right[i]? = some s → s.kind = 1 → lv M0 s.sort = true)
  yes : news = true → M.count false < M0.count false
theorem RL.zero (g : GramM) (x : ProdM) (k : Nat) (M0 : List Bool) : RL g x k M0 0 false M0 := ⟨fun _ => ⟨rfl, fun _ i s hi => by omega⟩, fun h => by cases h⟩
theorem RL.skip {g : GramM} {x : ProdM} {k : Nat} {M0 : List Bool} {j : Nat} {news : Bool} {M : List Bool} (h : RL g x k M0 j news M) {s : SymM} (hs : x.right[j]? = some s) (hq : lv M k = false ∨ s.kind ≠ 1 ∨ lv M s.sort = true) : RL g x k M0 (j + 1) news M :=
  ⟨fun hn => ⟨(h.no hn).1, fun hk i y hi hy h1 => by
    by_cases e : i = j
    · subst e; rw [hs] at hy; cases hy
      rcases hq with hq | hq | hq
      · rw [(h.no hn).1, hk] at hq; cases hq
      · exact absurd h1 hq
      · rw [(h.no hn).1] at hq; exact hq
    · exact (h.no hn).2 hk i y (by omega) hy h1⟩, h.yes⟩
theorem RL.set {g : GramM} {x : ProdM} {k : Nat} {M0 : List Bool} {j : Nat} {news : Bool} {M : List Bool} (h : RL g x k M0 j news M) {t : Nat} (ht : t < M.length) (hq : lv M t = false) : RL g x k M0 (j + 1) true (M.set t true) :=
  ⟨fun hn => by (cases hn), fun _ => by
    have := count_set (lv_false_at ht hq)
    cases hn : news with
    | false => rw [(h.no hn).1] at this ⊢; exact this
    | true => have := h.yes hn; omega⟩

set_option maxRecDepth 100000 in
set_option maxHeartbeats 4000000 in
/-- reached's closure. -/
theorem f73_any (g : GramM) (hm : MayB g) (w0 : World) (hg : GIn w0 g) (N Bx Bm : Nat) (a : Option Addr) (c : Nat) :
    StepsBy 73 #[.pointer (some ⟨Bx, 0, none⟩)] (mkL g) (MJ g (SoundR g) w0 N Bx Bm a c) (fun x M => lv M x.left = true → ∀ s, s ∈ x.right → s.kind = 1 → lv M s.sort = true) (fun M => M.count false) := by
  intro M W x hx hI
  obtain ⟨k, hk, hkn⟩ := hm.left x (mkL_mem.1 hx).1
  have HX : Hid (x ∈ g.prods ∧ treeP x) := Lib.hid (mkL_mem.1 hx)
  have HMB := Lib.hid hm
  have HKN := Lib.hid hkn
  have HRow : Hid (RowSym w0 x.ra x.right) := Lib.hid (RowOf.mem hg.prods (mkL_mem.1 hx).1)
  have HI := Lib.hid hI
  have HE : Hid (prodC x = #[.int .i64 (k : Int), .slice x.ra x.right.length x.rc, .string x.cons, .int .i64 x.role, .bool x.prefer, .bool x.avoid, .int .i64 x.frm]) := Lib.hid (by rw [← hk]; rfl)
  have HEnd : Hid (∀ (b : Bool) (M' : List Bool) (V : World), MJ g (SoundR g) w0 N Bx Bm a c M' V → RL g x k M x.right.length b M' → ∃ b' s', Ending.returned (.bool b) = .returned (.bool b') ∧ MJ g (SoundR g) w0 N Bx Bm a c s' V ∧ (b' = false → s' = M ∧ (lv M x.left = true → ∀ s, s ∈ x.right → s.kind = 1 → lv M s.sort = true)) ∧ (b' = true → s'.count false < M.count false)) := Lib.hid fun b M' V h1 h2 =>
    ⟨b, M', rfl, h1, fun hb => ⟨(h2.no hb).1, fun hl s hs h1 => by
      obtain ⟨i, hi⟩ := List.mem_iff_getElem?.1 hs
      exact (h2.no hb).2 (by rw [← hk]; exact hl) i s (List.getElem?_eq_some_iff.1 hi).1 hi h1⟩, h2.yes⟩
  have hP := Blk.new W 65 (prodC x)
  have hr := hm.right x (mkL_mem.1 hx).1
  have HWm : Hid (Bm < W.heap.size) := Lib.hid hI.mark.lt.2
  have HP0 : Hid (MJ g (SoundR g) w0 N Bx Bm a c M (W.alloc (.cells (prodC x) 65)) ∧ Blk (W.alloc (.cells (prodC x) 65)) W.heap.size 65 (prodC x) ∧ Below W.heap.size W (W.alloc (.cells (prodC x) 65)) ∧ RL g x k M 0 false M) := Lib.hid ⟨hI.below ((Below.refl _ _).alloc (Nat.le_refl _) _), hP, (Below.refl _ _).alloc (Nat.le_refl _) _, RL.zero g x k M⟩
  have HKL := Lib.hid hk
  have HGI := Lib.hid hg
  obtain ⟨ra, hra⟩ : ∃ ra, ra = x.ra := ⟨_, rfl⟩
  obtain ⟨n, hn⟩ : ∃ n, n = x.right.length := ⟨_, rfl⟩
  have HN := Lib.hid hn
  rw [← hra] at HRow HE
  rw [← hn] at hr HE HEnd
  unfold prodV
  rw [HE.out] at HP0 ⊢
  clear hI hm hg hx hk hkn hP hra hn HE
  refine Calls.mono ?_ (fun e w' (h : ∃ b M', e = .returned (.bool b) ∧ MJ g (SoundR g) w0 N Bx Bm a c M' w' ∧ RL g x k M n b M') => ?_)
  · clear HEnd
    go_enter Tryz.func73, Tryz.ntmps73
    obtain ⟨c0, c1, c2, c3, c4, c5, c6⟩ := cells7 HP0.out.2.1
    go_wp2
    go_loopw [4, 10] (fun vn vj wr => ∃ (j : Nat) (b : Bool) (M' : List Bool), vn = .bool b ∧ vj = .int .i64 j ∧ j ≤ n ∧ Hid (MJ g (SoundR g) w0 N Bx Bm a c M' wr ∧ Blk wr W.heap.size 65 #[.int .i64 (k : Int), .slice ra n x.rc, .string x.cons, .int .i64 x.role, .bool x.prefer, .bool x.avoid, .int .i64 x.frm] ∧ W.heap.size + 1 ≤ wr.heap.size ∧ RL g x k M j b M')) (fun _ vj _ => n - (intOf vj).toNat)
    case atStart => exact ⟨0, false, M, rfl, rfl, Nat.zero_le _, Lib.hid ⟨HP0.out.1, HP0.out.2.1, by simp, HP0.out.2.2.2⟩⟩
    case round =>
      clear HP0 c0 c1 c2 c3 c4 c5 c6
      obtain ⟨j, b, M', rfl, rfl, hj, K⟩ := hrel
      by_cases hlt : j < n
      · obtain ⟨s, hs⟩ : ∃ s, x.right[j]? = some s := ⟨_, List.getElem?_eq_getElem (by rw [← HN.out]; exact hlt)⟩
        have hmem := List.mem_of_getElem? hs
        obtain ⟨b1, o1, rfl, hb1, hc1, _⟩ := HRow.out j s hs
        have hc1 := hc1.below K.out.1.low hb1
        have hb1' := Nat.lt_of_lt_of_le hb1 K.out.1.low.size
        obtain ⟨s0, s1, s2, s3, s4, s5⟩ := Sym_at hc1
        have cx := K.out.1.mark.bx.cell 0
        have lx := K.out.1.mark.lt.1
        have lm := K.out.1.mark.lt.2
        have cm := K.out.1.mark.bm.cell k
        have hkl : k < M'.length := by rw [K.out.1.len]; exact HKN.out
        rw [bools_at M' k hkl] at cm
        obtain ⟨c0, c1, c2, c3, c4, c5, c6⟩ := cells7 K.out.2.1
        have lw := K.out.2.1.lt
        have HS := Lib.hid hs
        have z1 : (j : Int) < (n : Int) := by omega
        have z0 : (0 : Int) ≤ (j : Int) := by omega
        have hB1 : Below wr.heap.size wr (wr.alloc (.cells (symC s) 60)) := (Below.refl _ _).alloc (Nat.le_refl _) _
        have HJ := Lib.hid (K.out.1.below hB1)
        have HXB := Lib.hid (K.out.2.1.below hB1 K.out.2.1.lt)
        have HRL := Lib.hid K.out.2.2.2
        have hWs := K.out.2.2.1
        have HK1 : Hid (s.kind = 1 → ∃ t : Nat, s.sort = t ∧ t < M'.length) := Lib.hid (fun h => by rw [K.out.1.len]; exact HMB.out.sym x HX.out.1 s hmem h)
        have HMk := Lib.hid (fun (t : Nat) (ht : t < M'.length) => mark_any M' Bm t M'.length M'.length _ HJ.out.mark.bm ht (Nat.le_refl _) (by rw [HJ.out.len]; exact Nat.le_trans HMB.out.sorts2 (by omega)))
        have hl1 : M'.length ≤ 1000 := by rw [K.out.1.len]; exact HMB.out.sorts2
        have HSR : Hid (s.kind = 1 → lv M' k = true → ∀ t : Nat, s.sort = t → SoundR g (M'.set t true)) := Lib.hid (fun h1 hv t ht => by
          obtain ⟨p1, p2⟩ := K.out.1.snd
          refine ⟨?_, fun i hi => ?_⟩
          · rw [List.getElem?_set]
            split
            · next e => rw [if_pos (by have := (List.getElem?_eq_some_iff.1 p1).1; rw [e]; exact this)]
            · exact p1
          · rw [List.getElem?_set] at hi
            split at hi
            · next e =>
              subst e
              refine (p2 k (by have := lv_true hv; rwa [Int.toNat_natCast] at this)).step ⟨x, HX.out.1, HKL.out, ?_, s, hmem, h1, ht⟩
              unfold useB
              have := HX.out.2
              have e11 : (x.role == 11) = false := by simpa using this
              rw [e11]; rfl
            · exact p2 i hi)
        obtain ⟨ml, hml⟩ : ∃ ml, ml = M'.length := ⟨_, rfl⟩
        rw [← hml] at cx hkl HK1 HMk hl1
        have HML := Lib.hid hml
        obtain ⟨v, hv⟩ : ∃ v, v = lv M' k := ⟨_, rfl⟩
        rw [← hv] at cm HSR
        have HV := Lib.hid hv
        have kz1 : (k : Int) < (ml : Int) := by omega
        have kz0 : (0 : Int) ≤ (k : Int) := by omega
        clear K hc1 hmem hs hml hv hB1
        obtain ⟨sk, ss, so⟩ := s
        unfold symC at HJ HXB HMk
        dsimp only at *
        cases v with
        | false =>
          have HZ := Lib.hid (HRL.out.skip HS.out (.inl HV.out.symm))
          go_wp2
          go_roundw
          case rel => exact ⟨j + 1, b, M', rfl, by go_num, by omega, Lib.hid ⟨HJ.out, HXB.out, by simp; omega, HZ.out⟩⟩
          case measure => simp [intOf]; omega
        | true =>
          cases k1 : (sk == 1) with
          | false =>
            have HZ := Lib.hid (HRL.out.skip HS.out (.inr (.inl (by simpa using k1))))
            go_wp2
            go_roundw
            case rel => exact ⟨j + 1, b, M', rfl, by go_num, by omega, Lib.hid ⟨HJ.out, HXB.out, by simp; omega, HZ.out⟩⟩
            case measure => simp [intOf]; omega
          | true =>
            obtain ⟨t, rfl, ht⟩ := HK1.out (by simpa using k1)
            have HC := Lib.hid (HMk.out t ht)
            have HSet := Lib.hid (HJ.out.set t (HSR.out (by simpa using k1) rfl t rfl))
            have htl : t < M'.length := by rw [← HML.out]; exact ht
            obtain ⟨u, hu⟩ : ∃ u, u = lv M' t := ⟨_, rfl⟩
            have HU := Lib.hid hu
            rw [← hu] at HC
            have hne : W.heap.size ≠ Bm := by have := HWm.out; omega
            have HXB2 := Lib.hid (HXB.out.other (a := ⟨Bm, t, none⟩) hne (.bool true))
            clear hu HMk HK1 HSR
            go_wp2_with fail
            refine HC.out.mono ?_
            rintro e w4 ⟨rfl, hw4⟩
            have HSet4 : Hid (MJ g (SoundR g) w0 N Bx Bm a c (M'.set t true) w4) := Lib.hid (by rw [hw4]; exact HSet.out)
            have HXB4 : Hid (Blk w4 W.heap.size 65 #[.int .i64 (k : Int), .slice (some ⟨b1, o1, none⟩) n x.rc, .string x.cons, .int .i64 x.role, .bool x.prefer, .bool x.avoid, .int .i64 x.frm]) := Lib.hid (by rw [hw4]; exact HXB2.out)
            have HS4 : Hid (W.heap.size + 1 ≤ w4.heap.size) := Lib.hid (by rw [hw4]; simp; omega)
            clear hw4 HSet HXB2 HC
            cases u with
            | true =>
              have HZ := Lib.hid (HRL.out.skip HS.out (.inr (.inr HU.out.symm)))
              have HJ2 : Hid (MJ g (SoundR g) w0 N Bx Bm a c M' w4) := Lib.hid (by have h := HSet4.out; rw [set_true_same htl HU.out.symm] at h; exact h)
              go_wp2
              go_roundw
              case rel => exact ⟨j + 1, b, M', rfl, by go_num, by omega, Lib.hid ⟨HJ2.out, HXB4.out, HS4.out, HZ.out⟩⟩
              case measure => simp [intOf]; omega
            | false =>
              have HZ := Lib.hid (HRL.out.set htl HU.out.symm)
              go_wp2
              go_roundw
              case rel => exact ⟨j + 1, true, M'.set t true, rfl, by go_num, by omega, Lib.hid ⟨HSet4.out, HXB4.out, HS4.out, HZ.out⟩⟩
              case measure => simp [intOf]; omega
      · obtain rfl : j = n := by omega
        have HJ := Lib.hid K.out.1
        have HR := Lib.hid K.out.2.2.2
        clear K
        go_wp2
        go_ret
        exact ⟨b, M', rfl, HJ.out, HR.out⟩
  · obtain ⟨b, M', rfl, h1, h2⟩ := h
    exact HEnd.out b M' w' h1 h2
/-- The Start leads to it. -/
def ReachR (g : GramM) (M : List Bool) : Prop := ReachU g false [] M
theorem mkL_use {x : ProdM} {L : List Bool} (h : useB false L x = true) : treeP x := by
  unfold useB at h
  simp only [Bool.and_eq_true, Bool.not_eq_true', beq_eq_false_iff_ne] at h
  exact h.1
theorem reached_end {g : GramM} {M : List Bool} (h1 : M.length = g.sorts.length) (h2 : SoundR g M) (h3 : ∀ x, x ∈ mkL g → lv M x.left = true → ∀ s, s ∈ x.right → s.kind = 1 → lv M s.sort = true) : ReachR g M :=
  reachU_of h1 h2.1 h2.2 fun x hx hu hl s hs hk => h3 x (mkL_mem.2 ⟨hx, mkL_use hu⟩) hl s hs hk

set_option maxRecDepth 100000 in
set_option maxHeartbeats 4000000 in
/-- reached: which sorts the Start leads to. -/
theorem reached_any (g : GramM) (hm : MayB g) (w : World) (hg : GIn w g) : Calls Tryz.prog 47 #[gramV g] w (MarksPost w (ReachR g)) := by
  have hmk := fun w' => make_bools g.sorts.length hm.sorts2 w'
  obtain ⟨st, hst, hstn⟩ := hm.start
  have hb0 := Blk.new w 27 (gramC g)
  obtain ⟨RL, hRL⟩ : ∃ RL : List Bool, RL = List.replicate g.sorts.length false := ⟨_, rfl⟩
  have hRl : RL.length = g.sorts.length := by rw [hRL]; simp
  rw [← hRL] at hmk
  obtain ⟨W1, hW1⟩ : ∃ W1, W1 = ((w.alloc (.cells (gramC g) 27)).alloc (.cells (bools RL) 4)).alloc (.cells #[.slice (some ⟨w.heap.size + 1, 0, none⟩) g.sorts.length g.sorts.length] 31) := ⟨_, rfl⟩
  have hb1 := Blk.new (w.alloc (.cells (gramC g) 27)) 4 (bools RL)
  have hb2 := Blk.new ((w.alloc (.cells (gramC g) 27)).alloc (.cells (bools RL) 4)) 31 #[.slice (some ⟨w.heap.size + 1, 0, none⟩) g.sorts.length g.sorts.length]
  simp only [World.size_alloc] at hb1 hb2
  have hs1 : W1.heap.size = w.heap.size + 3 := by rw [hW1]; simp
  have hB1 : Below w.heap.size w W1 := by rw [hW1]; exact (((Below.refl _ w).alloc (Nat.le_refl _) _).alloc (by simp) _).alloc (by simp; omega) _
  have k0 : Blk W1 w.heap.size 27 (gramC g) := by rw [hW1]; exact (hb0.alloc _).alloc _
  have kM : MarkAt (w.heap.size + 1 + 1) (w.heap.size + 1) RL W1 := by rw [hW1]; exact ⟨by rw [hRl]; exact hb2, hb1.alloc _⟩
  obtain ⟨W2, hW2⟩ : ∃ W2, W2 = W1.setCell ⟨w.heap.size + 1, st, none⟩ (.bool true) := ⟨_, rfl⟩
  have kM2 : MarkAt (w.heap.size + 1 + 1) (w.heap.size + 1) (RL.set st true) W2 := by rw [hW2]; exact kM.set (by omega) st
  have hs2 : W2.heap.size = w.heap.size + 3 := by rw [hW2]; simp [hs1]
  have hB2 : Below w.heap.size w W2 := by rw [hW2]; exact hB1.setCell (p := ⟨w.heap.size + 1, st, none⟩) (by show w.heap.size ≤ w.heap.size + 1; omega) _
  have k02 : Blk W2 w.heap.size 27 (gramC g) := by rw [hW2]; exact k0.other (by show w.heap.size ≠ w.heap.size + 1; omega) _
  have hS0 : SoundR g (RL.set st true) := by
    refine ⟨by rw [hst, Int.toNat_natCast]; simp [hRl, hstn], fun k hk => ?_⟩
    rw [List.getElem?_set] at hk
    split at hk
    · next e => subst e; rw [hst, Int.toNat_natCast]; exact .refl
    · rw [hRL, List.getElem?_replicate] at hk
      split at hk <;> simp at hk
  have HMk := Lib.hid (making_any g hm W2 (hg.below hB2))
  have HSet := Lib.hid (fun (a : Option Addr) (c : Nat) (W : World) (hW : Below W2.heap.size W2 W) (ho : OwnP W2.heap.size W a c (mkL g)) =>
    settle_any (mkL g) a c 73 #[.pointer (some ⟨w.heap.size + 1 + 1, 0, none⟩)] (fun _ _ => by kernel_rfl) (MJ g (SoundR g) w W2.heap.size (w.heap.size + 1 + 1) (w.heap.size + 1) a c) _ _ (Nat.le_trans (mkL_len g) (Nat.le_trans hm.prods (by omega)))
      (fun M W h => h.prods hg) (fun M W V h hB => h.below hB) (f73_any g hm w hg _ _ _ a c) (RL.set st true) W
      ⟨kM2.below hW (by rw [hs2]; omega) (by rw [hs2]; omega), by simp [hRl], hS0, hB2.trans (hW.mono hB2.size), ho, by omega, by rw [hs2]; omega, by omega, by rw [hs2]; omega, by omega⟩)
  have HEnd : Hid (∀ M, M.length = g.sorts.length → SoundR g M → (∀ x, x ∈ mkL g → lv M x.left = true → ∀ s, s ∈ x.right → s.kind = 1 → lv M s.sort = true) → ReachR g M) := Lib.hid fun M h1 h2 h3 => reached_end h1 h2 h3
  have cB := kM.bm.cell st
  rw [bools_at RL st (by rw [hRl]; exact hstn)] at cB
  have fB := kM.bm.frozen st
  have cX := kM.bx.cell 0
  have HK0 := Lib.hid k0
  have HK02 := Lib.hid k02
  have HW1 := Lib.hid hW1
  have HW2 := Lib.hid hW2
  have Hs1 := Lib.hid hs1
  have Hs2 := Lib.hid hs2
  obtain ⟨n, hn⟩ : ∃ n, n = g.sorts.length := ⟨_, rfl⟩
  have N1 := Lib.hid hn
  have hn1 := hm.sorts2
  have z1 : (st : Int) < (n : Int) := by omega
  have z0 : (0 : Int) ≤ (st : Int) := by omega
  rw [hRl] at cX
  have HGr : Hid (gramC g = #[.slice g.sa n g.sc, .slice g.pa g.prods.length g.pc, .int .i64 (st : Int), .slice g.fa g.forbid.length g.fc, .slice g.wa g.follow.length g.wc]) := Lib.hid (by rw [hn, ← hst]; rfl)
  rw [← hn] at hn1 hmk HW1 cX
  have lB := kM.lt.2
  have lX := kM.lt.1
  clear hm hg hb0 hb1 hb2 k0 k02 kM kM2 hB1 hB2 hs1 hs2 hW1 hW2 hS0 hst hstn hRl hRL
  unfold gramV at *
  rw [HGr.out] at HW1 HK0 HK02 HMk ⊢
  rw [← hn] at HEnd
  clear hn HGr
  go_enter Tryz.func47, Tryz.ntmps47
  go_upto_region 2 with (fail)
  rw [← HW1.out]
  have c0 := HK0.out.cell 0
  have c1 := HK0.out.cell 1
  have c2 := HK0.out.cell 2
  have c3 := HK0.out.cell 3
  have c4 := HK0.out.cell 4
  have d0 := HK02.out.cell 0
  have d1 := HK02.out.cell 1
  have d2 := HK02.out.cell 2
  have d3 := HK02.out.cell 3
  have d4 := HK02.out.cell 4
  have l0 := HK0.out.lt
  go_upto_region 3 with (fail)
  rw [← HW2.out]
  have e0 := HK02.out.lt
  clear c0 c1 c2 c3 c4 l0 cB fB lB
  go_wp2_with fail
  refine HMk.out.mono ?_
  rintro e w3 ⟨a, c, rfl, hO, hB3⟩
  have HC := Lib.hid (HSet.out a c w3 hB3 hO)
  have HB3 := Lib.hid hB3
  clear hO hB3 HSet HMk
  go_wp2_with fail
  refine HC.out.mono ?_
  rintro e w4 ⟨rfl, M, hJ, hq⟩
  have HR := Lib.hid (HEnd.out M (by rw [hJ.len, N1.out]) hJ.snd hq)
  have HJ := Lib.hid hJ
  have cx := hJ.mark.bx.cell 0
  have lx := hJ.mark.bx.lt
  clear hJ hq HC HEnd
  go_wp2
  go_ret
  exact ⟨M, w.heap.size + 1, HR.out, rfl, by omega, HJ.out.mark.bm, HJ.out.low⟩
end Go.Proofs.YtodnlcbnbkkanaaGreatDoor
end
section
namespace Go.Proofs.YtodnlcbnbkkanaaGreatDoor
open Go Go.RowKit

/-- The cells of numbers. -/
def ints (L : List Int) : Array Value := (L.map (Value.int .i64)).toArray
theorem ints_at (L : List Int) (i : Nat) (h : i < L.length) : (ints L)[i]? = some (.int .i64 L[i]) := by
  unfold ints
  simp [List.getElem?_eq_getElem h]
theorem ints_set (L : List Int) (i : Nat) (v : Int) : (ints L).setIfInBounds i (.int .i64 v) = ints (L.set i v) := by
  unfold ints
  rw [List.setIfInBounds_toArray, List.map_set]
/-- The array of lengths: those of the sorts, then -1 each. -/
def arrL (S : List Int) : List Int := S ++ List.replicate (1000 - S.length) (-1)
theorem arrL_len {S : List Int} (h : S.length ≤ 1000) : (arrL S).length = 1000 := by unfold arrL; simp; omega
theorem arrL_at {S : List Int} {k : Nat} (h : k < S.length) : (ints (arrL S))[k]? = some (.int .i64 (gi S k)) := by
  rw [ints_at _ _ (by unfold arrL; simp; omega)]
  unfold arrL gi
  rw [List.getElem_append_left h, Int.toNat_natCast, List.getD_eq_getElem?_getD, List.getElem?_eq_getElem h]; rfl
theorem arrL_set {S : List Int} {k : Nat} (h : k < S.length) (v : Int) : (ints (arrL S)).setIfInBounds k (.int .i64 v) = ints (arrL (S.set k v)) := by
  rw [ints_set]
  unfold arrL
  rw [List.set_append_left _ _ h, List.length_set]

theorem sumA_tail (S : List Int) (s : SymM) : ∀ (l : List SymM) (j : Nat) (n : Int), l[j]? = some s → symN S s < 0 → sumA S l n = -1 := by
  intro l
  induction l with
  | nil => intro j n h; simp at h
  | cons x r ih =>
    intro j n h hs
    rw [sumA_cons]
    split
    · rfl
    · next hx =>
      cases j with
      | zero => simp at h; subst h; exact absurd hs hx
      | succ j => exact ih j _ (by simpa using h) hs

set_option maxRecDepth 100000 in
set_option maxHeartbeats 4000000 in
/-- lengths.of: how many bytes a production's shortest texts have. -/
theorem of_any (x : ProdM) (S : List Int) (B : Nat) (w : World) (hb : Blk w B 127 (ints (arrL S))) (hS : S.length ≤ 1000) (hlo : ∀ i, -1 ≤ gi S i ∧ gi S i ≤ 1048577) (hx : ProdIn w x) (hr : x.right.length ≤ 30) (hs : ∀ s, s ∈ x.right → s.kind = 1 → ∃ k : Nat, s.sort = k ∧ k < S.length) :
    Calls Tryz.prog 83 #[.pointer (some ⟨B, 0, none⟩), prodV x] w fun e w' => e = .returned (.int .i64 (sumA S x.right 0)) ∧ Below w.heap.size w w' := by
  have hB1 : Below w.heap.size w (w.alloc (.cells (prodC x) 65)) := (Below.refl _ _).alloc (Nat.le_refl _) _
  have HP := Lib.hid (Blk.new w 65 (prodC x))
  have HB := Lib.hid hB1
  have HRow : Hid (RowSym w x.ra x.right) := Lib.hid hx
  have HS := Lib.hid hs
  have HA := Lib.hid hb
  have HLo := Lib.hid hlo
  have hbl := hb.lt
  obtain ⟨ra, hra⟩ : ∃ ra, ra = x.ra := ⟨_, rfl⟩
  obtain ⟨n, hn⟩ : ∃ n, n = x.right.length := ⟨_, rfl⟩
  have HN := Lib.hid hn
  obtain ⟨q, hq⟩ : ∃ q, q = sumA S x.right 0 := ⟨_, rfl⟩
  have HQ := Lib.hid hq
  have HE : Hid (prodC x = #[.int .i64 x.left, .slice ra n x.rc, .string x.cons, .int .i64 x.role, .bool x.prefer, .bool x.avoid, .int .i64 x.frm]) := Lib.hid (by rw [hra, hn]; rfl)
  rw [← hra] at HRow
  rw [← hq]
  rw [← hn] at hr
  unfold prodV
  rw [HE.out] at HP HB ⊢
  obtain ⟨c0, c1, c2, c3, c4, c5, c6⟩ := cells7 HP.out
  clear hB1 hx hs hb hlo hra hn hq HE
  go_enter Tryz.func83, Tryz.ntmps83
  go_wp2
  go_loopw [5, 12] (fun vs vj wr => ∃ (j : Nat) (t : Int), vs = .int .i64 t ∧ vj = .int .i64 j ∧ j ≤ n ∧ 0 ≤ t ∧ t ≤ 1048577 ∧ Hid (t = sumA S (x.right.take j) 0) ∧ Hid (Below w.heap.size w wr)) (fun _ vj _ => n - (intOf vj).toNat)
  case atStart => exact ⟨0, 0, rfl, rfl, Nat.zero_le _, Int.le_refl _, by omega, Lib.hid rfl, HB⟩
  case round =>
    clear c0 c1 c2 c3 c4 c5 c6 HP HB
    obtain ⟨j, t, rfl, rfl, hj, ht0, ht1, K, HBr⟩ := hrel
    by_cases hlt : j < n
    · obtain ⟨s, hs⟩ : ∃ s, x.right[j]? = some s := ⟨_, List.getElem?_eq_getElem (by rw [← HN.out]; exact hlt)⟩
      obtain ⟨b1, o1, rfl, hb1, hc1, _⟩ := HRow.out j s hs
      have hc1 := hc1.below HBr.out hb1
      have hb1' := Nat.lt_of_lt_of_le hb1 HBr.out.size
      obtain ⟨s0, s1, s2, s3, s4, s5⟩ := Sym_at hc1
      have z1 : (j : Int) < (n : Int) := by omega
      have z0 : (0 : Int) ≤ (j : Int) := by omega
      have HSk := Lib.hid (HS.out s (List.mem_of_getElem? hs))
      have HSum : Hid (sumA S (x.right.take (j + 1)) 0 = if symN S s < 0 then -1 else min (t + symN S s) 1048577) := Lib.hid (by
        rw [take_snoc x.right j s hs, sumA_snoc S s _ 0 (Int.le_refl 0), ← K.out, if_neg (by omega)])
      have HNeg : Hid (symN S s < 0 → q = -1) := Lib.hid (fun h => by
        rw [HQ.out]
        have e := sumA_tail S s x.right j 0 hs h
        exact e)
      have hbr : B < wr.heap.size := Nat.lt_of_lt_of_le hbl HBr.out.size
      have HAr := Lib.hid (HA.out.below HBr.out hbl)
      clear hs hc1 K
      obtain ⟨sk, ss, so⟩ := s
      dsimp only at *
      cases k1 : (sk == 1) with
      | false =>
        have hv : Hid (symN S ⟨sk, ss, so⟩ = 1) := Lib.hid (by unfold symN; rw [if_neg (by simpa using k1)])
        have HZ : Hid (min (t + 1) 1048577 = sumA S (x.right.take (j + 1)) 0) := Lib.hid (by rw [HSum.out, hv.out, if_neg (by decide)])
        have z3 : IntKind.i64.wrap (t + 1) = t + 1 := IntWalk.i64_in _ (by omega)
        clear HSum HNeg HSk HAr
        go_wp2
        go_roundw
        case rel => exact ⟨j + 1, if 1048577 < t + 1 then 1048577 else t + 1, rfl, by go_num, by omega, by split <;> omega, by split <;> omega, Lib.hid (by rw [← HZ.out]; split <;> omega), Lib.hid (HBr.out.alloc HBr.out.size _)⟩
        case measure => simp [intOf]; omega
      | true =>
        obtain ⟨k, rfl, hk⟩ := HSk.out (by simpa using k1)
        have cA := HAr.out.cell k
        rw [arrL_at hk] at cA
        have hv : Hid (symN S ⟨sk, ss, (k : Int)⟩ = gi S k) := Lib.hid (by unfold symN; rw [if_pos (by simpa using k1)])
        obtain ⟨g1, g2⟩ := HLo.out k
        obtain ⟨v, hvv⟩ : ∃ v, v = gi S (k : Int) := ⟨_, rfl⟩
        rw [← hvv] at cA g1 g2 hv
        have hk1 : k < 1000 := by omega
        have kz1 : (k : Int) < 1000 := by omega
        have kz0 : (0 : Int) ≤ (k : Int) := by omega
        clear hvv HSk HAr hk
        by_cases hneg : v = -1
        · subst hneg
          have HE := Lib.hid (HNeg.out (by rw [hv.out]; decide))
          clear HSum HNeg
          go_wp2
          go_quiet (fail)
          go_wp2
          go_ret
          exact ⟨by rw [HE.out]; rfl, below_drewN (HBr.out.alloc HBr.out.size _) _⟩
        · have hneg2 : (v == -1) = false := by simpa using hneg
          have HZ : Hid (min (t + v) 1048577 = sumA S (x.right.take (j + 1)) 0) := Lib.hid (by rw [HSum.out, hv.out, if_neg (by omega)])
          have z3 : IntKind.i64.wrap (t + v) = t + v := IntWalk.i64_in _ (by omega)
          have hv0 : 0 ≤ v := by omega
          clear HSum HNeg hneg
          go_wp2
          go_quiet (fail)
          go_wp2
          go_roundw
          case rel => exact ⟨j + 1, if 1048577 < t + v then 1048577 else t + v, rfl, by go_num, by omega, by split <;> omega, by split <;> omega, Lib.hid (by rw [← HZ.out]; split <;> omega), Lib.hid (below_drewN (HBr.out.alloc HBr.out.size _) _)⟩
          case measure => simp [intOf]; omega
    · obtain rfl : j = n := by omega
      have HE : Hid (t = q) := Lib.hid (by rw [K.out, HQ.out, List.take_of_length_le (by have := HN.out; omega)])
      clear K
      go_wp2
      go_ret
      exact ⟨by rw [← HE.out]; rfl, HBr.out⟩
end Go.Proofs.YtodnlcbnbkkanaaGreatDoor
end
section
namespace Go.Proofs.YtodnlcbnbkkanaaGreatDoor
open Go Go.RowKit

/-- What shortest holds while it is settled. -/
structure NJ (g : GramM) (w0 : World) (N B : Nat) (a : Option Addr) (c : Nat) (S : List Int) (W : World) : Prop where
  arr : Blk W B 127 (ints (arrL S))
  len : S.length = g.sorts.length
  snd : SoundN g S
  low : Below w0.heap.size w0 W
  own : OwnP N W a c (mkL g)
  hx : w0.heap.size ≤ B ∧ B < N
section
variable {g : GramM} {w0 : World} {N B : Nat} {a : Option Addr} {c : Nat} {S : List Int} {W : World}
theorem NJ.below {V : World} (h : NJ g w0 N B a c S W) (hB : Below W.heap.size W V) : NJ g w0 N B a c S V :=
  ⟨h.arr.below hB h.arr.lt, h.len, h.snd, h.low.trans (hB.mono h.low.size), h.own.below hB (Nat.le_refl _), h.hx⟩
theorem NJ.set (h : NJ g w0 N B a c S W) {k : Nat} (hk : k < S.length) {v : Int} (hs : SoundN g (S.set k v)) : NJ g w0 N B a c (S.set k v) (W.setCell ⟨B, k, none⟩ (.int .i64 v)) :=
  ⟨by rw [← arrL_set hk]; exact h.arr.set k _, by rw [List.length_set]; exact h.len, hs, h.low.setCell (p := ⟨B, k, none⟩) h.hx.1 _, h.own.put h.hx.2 _, h.hx⟩
theorem NJ.prods (h : NJ g w0 N B a c S W) (hg : GIn w0 g) : RowProd W a (mkL g) := h.own.rowProd fun x hx => (RowOf.mem hg.prods (mkL_mem.1 hx).1).below h.low
end
theorem gi_nat {S : List Int} {k : Nat} (h : k < S.length) : S[k]? = some (gi S k) := by
  unfold gi; rw [Int.toNat_natCast, List.getD_eq_getElem?_getD, List.getElem?_eq_getElem h]; rfl

/-- What shortest's closure leaves. -/
def ShortPost (w : World) (B k : Nat) (n u : Int) (e : Ending) (w' : World) : Prop := ∃ w3, Below w.heap.size w w3 ∧
  ((n = -1 ∨ (u ≠ -1 ∧ u ≤ n)) ∧ e = .returned (.bool false) ∧ w' = w3 ∨ (n ≠ -1 ∧ (u = -1 ∨ n < u)) ∧ e = .returned (.bool true) ∧ w' = w3.setCell ⟨B, k, none⟩ (.int .i64 n))

set_option maxRecDepth 100000 in
set_option maxHeartbeats 4000000 in
/-- shortest's closure. -/
theorem f82_any (x : ProdM) (S : List Int) (B : Nat) (w : World) (hb : Blk w B 127 (ints (arrL S))) (hS : S.length ≤ 1000) (hlo : ∀ i, -1 ≤ gi S i ∧ gi S i ≤ 1048577) (hx : ProdIn w x) (hr : x.right.length ≤ 30) (hs : ∀ s, s ∈ x.right → s.kind = 1 → ∃ k : Nat, s.sort = k ∧ k < S.length) (k : Nat) (hk : x.left = k) (hkl : k < S.length) :
    Calls Tryz.prog 82 #[prodV x, .pointer (some ⟨B, 0, none⟩)] w (ShortPost w B k (sumA S x.right 0) (gi S k)) := by
  have hB1 : Below w.heap.size w (w.alloc (.cells (prodC x) 65)) := (Below.refl _ _).alloc (Nat.le_refl _) _
  have hlt := hb.lt
  have HC := Lib.hid (of_any x S B _ (hb.below hB1 hlt) hS hlo (hx.below hB1) hr hs)
  have HP := Lib.hid (Blk.new w 65 (prodC x))
  have HB := Lib.hid hB1
  have HA := Lib.hid hb
  have HK := Lib.hid hkl
  have hk1 : k < 1000 := by omega
  have HE : Hid (prodC x = #[.int .i64 (k : Int), .slice x.ra x.right.length x.rc, .string x.cons, .int .i64 x.role, .bool x.prefer, .bool x.avoid, .int .i64 x.frm]) := Lib.hid (by rw [← hk]; rfl)
  have hn := sumA_range S x.right 0 (by omega) (by omega)
  obtain ⟨n, hnn⟩ : ∃ n, n = sumA S x.right 0 := ⟨_, rfl⟩
  rw [← hnn] at HC hn ⊢
  obtain ⟨u, hu⟩ : ∃ u, u = gi S (k : Int) := ⟨_, rfl⟩
  have HU := Lib.hid hu
  rw [← hu]
  clear hu
  unfold prodV at *
  rw [HE.out] at HC HP HB ⊢
  obtain ⟨c0, c1, c2, c3, c4, c5, c6⟩ := cells7 HP.out
  clear hB1 hb hx hs hk hkl hnn hlo hr hS
  go_enter Tryz.func82, Tryz.ntmps82
  go_wp2_with fail
  refine HC.out.mono ?_
  rintro e w3 ⟨rfl, hB3⟩
  have HB3 := Lib.hid (HB.out.trans (hB3.mono HB.out.size))
  have HP3 := Lib.hid (HP.out.below hB3 HP.out.lt)
  have HA3 := Lib.hid (HA.out.below HB3.out hlt)
  obtain ⟨d0, d1, d2, d3, d4, d5, d6⟩ := cells7 HP3.out
  have l3 := HP3.out.lt
  have lA := HA3.out.lt
  have cA := HA3.out.cell k
  rw [arrL_at HK.out] at cA
  have fA := HA3.out.frozen k
  rw [← HU.out] at cA
  have kz1 : (k : Int) < 1000 := by omega
  have kz0 : (0 : Int) ≤ (k : Int) := by omega
  clear hB3 HC c0 c1 c2 c3 c4 c5 c6 HP HA
  by_cases h1 : n = -1
  · subst h1
    go_wp2
    go_ret
    exact ⟨w3, HB3.out, .inl ⟨.inl rfl, rfl, rfl⟩⟩
  · have h1b : (n == -1) = false := by simpa using h1
    by_cases h2 : u = -1
    · subst h2
      have H1 := Lib.hid h1
      clear h1
      go_wp2
      go_ret
      exact ⟨w3, HB3.out, .inr ⟨⟨H1.out, .inl rfl⟩, rfl, rfl⟩⟩
    · have h2b : (u == -1) = false := by simpa using h2
      have h2c : (u != -1) = true := by simpa using h2
      have H1 := Lib.hid h1
      have H2 := Lib.hid h2
      clear h1 h2
      by_cases h3 : u ≤ n
      · have h3b : decide (u ≤ n) = true := by simpa using h3
        go_wp2
        go_ret
        exact ⟨w3, HB3.out, .inl ⟨.inr ⟨H2.out, h3⟩, rfl, rfl⟩⟩
      · have h3b : decide (u ≤ n) = false := by simpa using h3
        have H3 := Lib.hid h3
        clear h3
        go_wp2
        go_ret
        exact ⟨w3, HB3.out, .inr ⟨⟨H1.out, .inr (by have := H3.out; omega)⟩, rfl, rfl⟩⟩
theorem short_steps {g : GramM} (hm : MayB g) (hs : MaySet g) {w0 : World} (hg : GIn w0 g) {N B : Nat} {a : Option Addr} {c : Nat} :
    StepsBy 82 #[.pointer (some ⟨B, 0, none⟩)] (mkL g) (NJ g w0 N B a c) (fun x S => okN S x) sizeN := by
  intro S W x hx hI
  obtain ⟨k, hk, hkn⟩ := hm.left x (mkL_mem.1 hx).1
  have hkl : k < S.length := by rw [hI.len]; exact hkn
  have hxg := (mkL_mem.1 hx).1
  have hr := sumA_range S x.right 0 (by omega) (by omega)
  refine (f82_any x S B W hI.arr (by rw [hI.len]; exact hm.sorts2) hI.snd.lo ((RowOf.mem hg.prods hxg).below hI.low) (hm.right x hxg) (fun s hs hk => by rw [hI.len]; exact hm.sym x hxg s hs hk) k hk hkl).mono ?_
  rintro e w' ⟨w3, hB, ⟨h, rfl, rfl⟩ | ⟨h, rfl, rfl⟩⟩
  · refine ⟨false, S, rfl, hI.below hB, fun _ => ⟨rfl, fun _ h0 => ?_⟩, fun h => by cases h⟩
    rw [hk]
    have := (hI.snd.lo (k : Int)).1
    omega
  · have hp : 0 ≤ sumA S x.right 0 := by omega
    have hset := hI.snd.set hs hxg (mkL_mem.1 hx).2 hp
    rw [hk, Int.toNat_natCast] at hset
    refine ⟨true, S.set k (sumA S x.right 0), rfl, (hI.below hB).set hkl hset, fun h => by (cases h), fun _ => ?_⟩
    exact sizeN_set (gi_nat hkl) hp hr.2 (by omega)

/-- What shortest answers: an array of one's own. -/
def ArrPost (g : GramM) (w : World) (e : Ending) (w' : World) : Prop := ∃ (S : List Int) (B : Nat), ShortP g S ∧ e = .returned (.pointer (some ⟨B, 0, none⟩)) ∧ w.heap.size ≤ B ∧ Blk w' B 127 (ints (arrL S)) ∧ Below w.heap.size w w'

theorem zero127 : Tryz.zeroCells127 = ints (List.replicate 1000 0) := by kernel_rfl
/-- The array, as far as it has been set. -/
def preL (i : Nat) : List Int := List.replicate i (-1) ++ List.replicate (1000 - i) 0
theorem preL_len {i : Nat} (h : i ≤ 1000) : (preL i).length = 1000 := by unfold preL; simp; omega
theorem preL_set {i : Nat} (h : i < 1000) : (preL i).set i (-1) = preL (i + 1) := by
  unfold preL
  rw [List.set_append_right _ _ (by simp), List.length_replicate, Nat.sub_self, show 1000 - i = (1000 - (i + 1)) + 1 by omega, List.replicate_succ, List.set_cons_zero, List.replicate_succ']
  simp
theorem preL_end (n : Nat) (h : n ≤ 1000) : preL 1000 = arrL (List.replicate n (-1)) := by
  unfold preL arrL
  rw [List.length_replicate, List.replicate_append_replicate, show n + (1000 - n) = 1000 by omega, Nat.sub_self, List.replicate_zero, List.append_nil]
theorem sound_start (g : GramM) : SoundN g (List.replicate g.sorts.length (-1)) := fun k n h => by
  rw [List.getElem?_replicate] at h
  split at h
  · exact .inl (by simpa using h.symm)
  · cases h

set_option maxRecDepth 100000 in
set_option maxHeartbeats 4000000 in
/-- shortest. -/
theorem shortest_any (g : GramM) (hm : MayB g) (hs : MaySet g) (w : World) (hg : GIn w g) : Calls Tryz.prog 60 #[gramV g] w (ArrPost g w) := by
  have hb0 := Blk.new w 27 (gramC g)
  have hbz := Blk.new (w.alloc (.cells (gramC g) 27)) 127 (ints (preL 0))
  rw [World.size_alloc] at hbz
  have hz : Tryz.zeroCells127 = ints (preL 0) := by rw [zero127]; rfl
  have HMk := Lib.hid (fun W1 (hB1 : Below w.heap.size w W1) => making_any g hm W1 (hg.below hB1))
  have HSet := Lib.hid (fun (W1 : World) (hs1 : w.heap.size + 1 < W1.heap.size) (hB1 : Below w.heap.size w W1) (hz : Blk W1 (w.heap.size + 1) 127 (ints (preL 1000))) (a : Option Addr) (c : Nat) (W : World) (hW : Below W1.heap.size W1 W) (ho : OwnP W1.heap.size W a c (mkL g)) =>
    settle_any (mkL g) a c 82 #[.pointer (some ⟨w.heap.size + 1, 0, none⟩)] (fun _ _ => by kernel_rfl) (NJ g w W1.heap.size (w.heap.size + 1) a c) _ _ (Nat.le_trans (mkL_len g) (Nat.le_trans hm.prods (by omega)))
      (fun S W h => h.prods hg) (fun S W V h hB => h.below hB) (short_steps hm hs hg) (List.replicate g.sorts.length (-1)) W
      ⟨by rw [← preL_end _ hm.sorts2]; exact hz.below hW hs1, by simp, sound_start g, hB1.trans (hW.mono hB1.size), ho, by omega, hs1⟩)
  have HEnd : Hid (∀ S, S.length = g.sorts.length → SoundN g S → (∀ x, x ∈ mkL g → okN S x) → ShortP g S) := Lib.hid fun S h1 h2 h3 => shortP_of hm h1 h2 fun x hx hr => h3 x (mkL_mem.2 ⟨hx, hr⟩) hr
  have HK0 : Hid (Blk ((w.alloc (.cells (gramC g) 27)).alloc (.cells (ints (preL 0)) 127)) w.heap.size 27 (gramC g) ∧ Blk ((w.alloc (.cells (gramC g) 27)).alloc (.cells (ints (preL 0)) 127)) (w.heap.size + 1) 127 (ints (preL 0)) ∧ Below w.heap.size w ((w.alloc (.cells (gramC g) 27)).alloc (.cells (ints (preL 0)) 127))) :=
    Lib.hid ⟨hb0.alloc _, hbz, ((Below.refl _ w).alloc (Nat.le_refl _) _).alloc (by simp) _⟩
  have HZ := Lib.hid hz
  clear hm hs hg hb0 hbz hz
  unfold gramV gramC at *
  go_enter Tryz.func60, Tryz.ntmps60
  go_wp2_with fail
  rw [HZ.out]
  go_loopw [5] (fun vi wr => ∃ i : Nat, vi = .int .i64 i ∧ i ≤ 1000 ∧ Hid (Blk wr w.heap.size 27 #[.slice g.sa g.sorts.length g.sc, .slice g.pa g.prods.length g.pc, .int .i64 g.start, .slice g.fa g.forbid.length g.fc, .slice g.wa g.follow.length g.wc] ∧ Blk wr (w.heap.size + 1) 127 (ints (preL i)) ∧ Below w.heap.size w wr)) (fun vi _ => 1000 - (intOf vi).toNat)
  case atStart => exact ⟨0, rfl, Nat.zero_le _, HK0⟩
  case round =>
    clear HK0 HZ
    obtain ⟨i, rfl, hi, K⟩ := hrel
    by_cases hlt : i < 1000
    · have z1 : (i : Int) < 1000 := by omega
      have z0 : (0 : Int) ≤ (i : Int) := by omega
      have cA := K.out.2.1.cell i
      rw [ints_at _ _ (by rw [preL_len hi]; exact hlt)] at cA
      have fA := K.out.2.1.frozen i
      have lA := K.out.2.1.lt
      have HN := Lib.hid (K.out.2.1.set i (.int .i64 (-1)))
      have HN2 : Hid (Blk (wr.setCell ⟨w.heap.size + 1, i, none⟩ (.int .i64 (-1))) (w.heap.size + 1) 127 (ints (preL (i + 1)))) := Lib.hid (by have h := HN.out; rw [ints_set, preL_set hlt] at h; exact h)
      have HG := Lib.hid (K.out.1.other (a := ⟨w.heap.size + 1, i, none⟩) (by show w.heap.size ≠ w.heap.size + 1; omega) (.int .i64 (-1)))
      have HB := Lib.hid (K.out.2.2.setCell (p := ⟨w.heap.size + 1, i, none⟩) (by show w.heap.size ≤ w.heap.size + 1; omega) (.int .i64 (-1)))
      obtain ⟨u, hu⟩ : ∃ u, u = (preL i)[i]'(by rw [preL_len hi]; exact hlt) := ⟨_, rfl⟩
      rw [← hu] at cA
      clear K HN hu
      go_wp2
      go_roundw
      case rel => exact ⟨i + 1, by go_num, by omega, Lib.hid ⟨HG.out, HN2.out, HB.out⟩⟩
      case measure => simp [intOf]; omega
    · obtain rfl : i = 1000 := by omega
      obtain ⟨c0, c1, c2, c3, c4⟩ := (show Blk wr w.heap.size 27 (gramC g) from K.out.1).gram
      have l0 := K.out.1.lt
      have HM := Lib.hid (HMk.out wr K.out.2.2)
      have HS := Lib.hid (HSet.out wr K.out.2.1.lt K.out.2.2 K.out.2.1)
      clear HMk HSet K
      go_wp2_with fail
      refine HM.out.mono ?_
      rintro e w3 ⟨a, c, rfl, hO, hB3⟩
      have HC := Lib.hid (HS.out a c w3 hB3 hO)
      clear hO hB3 HS HM
      go_wp2_with fail
      refine HC.out.mono ?_
      rintro e w4 ⟨rfl, S, hJ, hq⟩
      have HR := Lib.hid (HEnd.out S hJ.len hJ.snd hq)
      have HJ := Lib.hid hJ
      clear hJ hq HC HEnd
      go_wp2
      go_ret
      exact ⟨S, w.heap.size + 1, HR.out, rfl, by omega, HJ.out.arr, HJ.out.low⟩
end Go.Proofs.YtodnlcbnbkkanaaGreatDoor
end
section
namespace Go.Proofs.YtodnlcbnbkkanaaGreatDoor
open Go Go.RowKit

set_option maxRecDepth 100000 in
set_option maxHeartbeats 2000000 in
/-- living's closure. -/
theorem f110_any (x : ProdM) (Bx Bm : Nat) (M : List Bool) (w : World) (h : MarkAt Bx Bm M w) (hM : M.length ≤ 1000) (hx : ProdIn w x) (hr : x.right.length ≤ 30) (hs : ∀ s, s ∈ x.right → s.kind = 1 → ∃ k : Nat, s.sort = k ∧ k < M.length) :
    Calls Tryz.prog 110 #[prodV x, .pointer (some ⟨Bx, 0, none⟩)] w fun e w' => e = .returned (.bool (x.right.any (lacksQ M))) ∧ Below w.heap.size w w' := by
  have hB1 : Below w.heap.size w (w.alloc (.cells (prodC x) 65)) := (Below.refl _ _).alloc (Nat.le_refl _) _
  obtain ⟨l1, l2⟩ := h.lt
  have HC := Lib.hid (containsSym_any x.ra x.rc x.right (lacksQ M) 111 #[.pointer (some ⟨Bx, 0, none⟩)] (fun _ _ => by kernel_rfl) _ (hx.below hB1) (Nat.le_trans hr (by omega)) (fun s hsx W hW =>
    f111_any s Bx Bm M W ((h.below hB1 l1 l2).below hW (Nat.lt_of_lt_of_le l1 hB1.size) (Nat.lt_of_lt_of_le l2 hB1.size)) hM (hs s hsx)))
  have HB := Lib.hid hB1
  clear hB1 h hx hs hM
  generalize x.right.any (lacksQ M) = r at *
  unfold prodV prodC at *
  go_enter Tryz.func110, Tryz.ntmps110
  go_wp2_with fail
  refine HC.out.mono ?_
  rintro e w3 ⟨rfl, hB3⟩
  have HB3 := Lib.hid (HB.out.trans (hB3.mono HB.out.size))
  clear hB3 HC
  go_wp2
  go_ret
  exact ⟨rfl, HB3.out⟩

/-- The productions that stand in some tree. -/
def livL (g : GramM) (L : List Bool) : List ProdM := (mkL g).filter fun x => !(x.right.any (lacksQ L))
theorem livL_mem {g : GramM} {L : List Bool} {x : ProdM} : x ∈ livL g L ↔ x ∈ g.prods ∧ treeP x ∧ x.right.any (lacksQ L) = false := by
  unfold livL
  rw [List.mem_filter, mkL_mem]
  simp [and_assoc]
theorem livL_len (g : GramM) (L : List Bool) : (livL g L).length ≤ g.prods.length := Nat.le_trans (List.length_filter_le _ _) (mkL_len g)
/-- What living answers. -/
def LivPost (g : GramM) (w : World) (e : Ending) (w' : World) : Prop := ∃ (L : List Bool) (a : Option Addr) (c : Nat), Live g L ∧ e = .returned (.slice a (livL g L).length c) ∧ OwnP w.heap.size w' a c (livL g L) ∧ Below w.heap.size w w'

set_option maxRecDepth 100000 in
set_option maxHeartbeats 4000000 in
/-- living. -/
theorem living_any (g : GramM) (hm : MayB g) (hf : Fit g) (w : World) (hg : GIn w g) : Calls Tryz.prog 84 #[gramV g] w (LivPost g w) := by
  have hB1 : Below w.heap.size w (w.alloc (.cells (gramC g) 27)) := (Below.refl _ _).alloc (Nat.le_refl _) _
  have HC := Lib.hid (productive_any g hm hf _ (hg.below hB1))
  have HB := Lib.hid hB1
  have HK := Lib.hid (Blk.new w 27 (gramC g))
  have HMk := Lib.hid (fun W1 (hB1 : Below w.heap.size w W1) => making_any g hm W1 (hg.below hB1))
  have HDel := Lib.hid (fun (M : List Bool) (Bx Bm N : Nat) (a : Option Addr) (c : Nat) (W : World) (hl : M.length = g.sorts.length) (hN : N ≤ W.heap.size) (hW : Below w.heap.size w W) (hwN : w.heap.size ≤ N) (hk : MarkAt Bx Bm M W) (h1 : Bx < N) (h2 : Bm < N) (ho : OwnP N W a c (mkL g)) =>
    delete_any 110 #[.pointer (some ⟨Bx, 0, none⟩)] (fun _ _ => by kernel_rfl) a c (mkL g) (fun x => x.right.any (lacksQ M)) N W hN (fun x hx V hV => f110_any x Bx Bm M V (hk.below hV h1 h2) (by rw [hl]; exact hm.sorts2) ((RowOf.mem hg.prods (mkL_mem.1 hx).1).below (hW.trans (hV.mono hwN))) (hm.right x (mkL_mem.1 hx).1) (fun s hs hk => by rw [hl]; exact hm.sym x (mkL_mem.1 hx).1 s hs hk))
      (Nat.le_trans (mkL_len g) (Nat.le_trans hm.prods (by omega))) ho)
  clear hm hf hg hB1
  unfold gramV gramC at *
  go_enter Tryz.func84, Tryz.ntmps84
  go_wp2_with fail
  refine HC.out.mono ?_
  rintro e w3 ⟨M, B, hL, rfl, hBl, hbk, hB3⟩
  have HL := Lib.hid hL
  have HK3 := Lib.hid (HK.out.below hB3 HK.out.lt)
  have hB4 : Below w3.heap.size w3 (w3.alloc (.cells #[.slice (some ⟨B, 0, none⟩) M.length M.length] 31)) := (Below.refl _ _).alloc (Nat.le_refl _) _
  have HMA : Hid (MarkAt w3.heap.size B M (w3.alloc (.cells #[.slice (some ⟨B, 0, none⟩) M.length M.length] 31))) := Lib.hid ⟨Blk.new w3 31 _, hbk.below hB4 hbk.lt⟩
  have HB4 := Lib.hid (HB.out.trans ((hB3.trans (hB4.mono hB3.size)).mono HB.out.size))
  have HBB : Hid (w.heap.size ≤ B ∧ B < w3.heap.size ∧ w.heap.size ≤ w3.heap.size) := Lib.hid ⟨Nat.le_trans HB.out.size hBl, hbk.lt, Nat.le_trans HB.out.size hB3.size⟩
  have HC2 := Lib.hid (HMk.out _ HB4.out)
  obtain ⟨c0, c1, c2, c3, c4⟩ := (show Blk w3 w.heap.size 27 (gramC g) from HK3.out).gram
  have l3 := HK3.out.lt
  generalize M.length = n at *
  clear hL hBl hbk hB3 hB4 HC HMk HB HK
  go_wp2_with fail
  refine HC2.out.mono ?_
  rintro e w4 ⟨a, c, rfl, hO, hB5⟩
  have hs4 : w3.heap.size + 1 ≤ w4.heap.size := by have := hB5.size; simpa using this
  have HC3 := Lib.hid (HDel.out M w3.heap.size B (w3.heap.size + 1) a c w4 HL.out.1 hs4 (HB4.out.trans (hB5.mono HB4.out.size)) (by have := HBB.out; omega) (HMA.out.below hB5 (by simp) (by have := HBB.out; simp; omega)) (by omega) (by have := HBB.out; omega) (by simpa using hO))
  have HB5 := Lib.hid (HB4.out.trans (hB5.mono HB4.out.size))
  clear hO hB5 HC2 hs4
  go_wp2_with fail
  refine HC3.out.mono ?_
  rintro e w5 ⟨rfl, hO5, hB6⟩
  have HO5 := Lib.hid hO5
  have HB6 := Lib.hid (HB5.out.trans (hB6.mono (by have := HBB.out; omega)))
  clear hO5 hB6 HC3
  go_wp2
  go_ret
  refine ⟨M, a, c, HL.out, rfl, ⟨?_, HO5.out.cap⟩, HB6.out⟩
  rcases HO5.out.row with h | ⟨B', cs, h1, h2, h3⟩
  · exact .inl h
  · exact .inr ⟨B', cs, h1, by have := HBB.out; omega, h3⟩

/-- What a function tells: a list of marks, or none beside the error that is due. -/
def TellPost (w : World) (g : GramM) (R : List Bool → Prop) (e : Ending) (w' : World) : Prop :=
  Below w.heap.size w w' ∧ ((checkB g = false ∧ e = .returned (.tuple #[.slice none 0 0, .int .i64 160])) ∨ (checkB g = true ∧ ∃ (M : List Bool) (B : Nat), R M ∧ e = .returned (.tuple #[.slice (some ⟨B, 0, none⟩) M.length M.length, .int .i64 0]) ∧ w.heap.size ≤ B ∧ Blk w' B 4 (bools M)))

set_option maxRecDepth 100000 in
set_option maxHeartbeats 4000000 in
/-- answer, of marks. -/
theorem answerB_any (g : GramM) (hf : FitG g) (K : Nat) (eg : ∀ args w, (callFunc K args).run Tryz.prog w = .ok (.enter K args) w) (R : List Bool → Prop) (w : World) (hg : GIn w g) (H : checkB g = true → ∀ W, GIn W g → Calls Tryz.prog K #[gramV g] W (MarksPost W R)) :
    Calls Tryz.prog 45 #[gramV g, .func (.func K) #[] #[]] w (TellPost w g R) := by
  have hB1 : Below w.heap.size w (w.alloc (.cells (gramC g) 27)) := (Below.refl _ _).alloc (Nat.le_refl _) _
  have HC := Lib.hid (check_any g _ (hg.below hB1) hf)
  have HB := Lib.hid hB1
  have HK := Lib.hid (Blk.new w 27 (gramC g))
  have HG := Lib.hid hg
  obtain ⟨b, hb⟩ : ∃ b, b = checkB g := ⟨_, rfl⟩
  have HBb := Lib.hid hb
  rw [← hb] at HC
  have HH := Lib.hid (fun h W hW => H (hb.symm.trans h) W hW)
  clear hf hg hB1 hb H
  unfold gramV gramC errI at *
  go_enter Tryz.func45, Tryz.ntmps45
  go_wp2_with fail
  refine HC.out.mono ?_
  rintro e w3 ⟨rfl, hB3⟩
  have HB3 := Lib.hid (HB.out.trans (hB3.mono HB.out.size))
  have HK3 := Lib.hid (HK.out.below hB3 HK.out.lt)
  clear hB3 HC
  cases b with
  | false =>
    rw [if_neg (by decide)]
    go_wp2
    go_ret2
    exact ⟨HB3.out, .inl ⟨HBb.out.symm, rfl⟩⟩
  | true =>
    rw [if_pos rfl]
    have HC2 := Lib.hid (HH.out rfl w3 (HG.out.below HB3.out))
    obtain ⟨c0, c1, c2, c3, c4⟩ := (show Blk w3 w.heap.size 27 (gramC g) from HK3.out).gram
    have l3 := HK3.out.lt
    clear HH
    go_wp2_with fail
    refine HC2.out.mono ?_
    rintro e w4 ⟨M, B, hR, rfl, hBl, hk, hB4⟩
    have HR := Lib.hid hR
    have HBl : Hid (w.heap.size ≤ B) := Lib.hid (Nat.le_trans HB3.out.size hBl)
    have HKk := Lib.hid hk
    have HB4 := Lib.hid (HB3.out.trans (hB4.mono HB3.out.size))
    clear hR hBl hk hB4 HC2
    go_wp2
    go_ret2
    exact ⟨HB4.out, .inr ⟨HBb.out.symm, M, B, HR.out, rfl, HBl.out, HKk.out⟩⟩


set_option maxRecDepth 100000 in
set_option maxHeartbeats 1000000 in
/-- Productive. -/
theorem Productive_any (g : GramM) (hf : FitG g) (w : World) (hg : GIn w g) : Calls Tryz.prog 13 #[gramV g] w (TellPost w g (Live g)) := by
  have hB1 : Below w.heap.size w (w.alloc (.cells (gramC g) 27)) := (Below.refl _ _).alloc (Nat.le_refl _) _
  have HC := Lib.hid (answerB_any g hf 46 (fun _ _ => by kernel_rfl) (Live g) _ (hg.below hB1) (fun h W hW => productive_any g (mayB_of h) hf.fit W hW))
  have HB := Lib.hid hB1
  clear hf hg hB1
  unfold gramV gramC at *
  go_enter Tryz.func13, Tryz.ntmps13
  go_wp2_with fail
  refine HC.out.mono ?_
  rintro e w3 ⟨hB3, ⟨hc, rfl⟩ | ⟨hc, M, B, hR, rfl, hBl, hk⟩⟩
  · have HB3 := Lib.hid (HB.out.trans (hB3.mono HB.out.size))
    have Hc := Lib.hid hc
    clear hB3 hc HC
    go_wp2
    go_ret2
    exact ⟨HB3.out, .inl ⟨Hc.out, rfl⟩⟩
  · have HB3 := Lib.hid (HB.out.trans (hB3.mono HB.out.size))
    have Hc := Lib.hid hc
    have HR := Lib.hid hR
    have HBl : Hid (w.heap.size ≤ B) := Lib.hid (Nat.le_trans HB.out.size hBl)
    have HK := Lib.hid hk
    clear hB3 hc HC hR hBl hk
    go_wp2
    go_ret2
    exact ⟨HB3.out, .inr ⟨Hc.out, M, B, HR.out, rfl, HBl.out, HK.out⟩⟩

set_option maxRecDepth 100000 in
set_option maxHeartbeats 1000000 in
/-- Reached. -/
theorem Reached_any (g : GramM) (hf : FitG g) (w : World) (hg : GIn w g) : Calls Tryz.prog 14 #[gramV g] w (TellPost w g (ReachR g)) := by
  have hB1 : Below w.heap.size w (w.alloc (.cells (gramC g) 27)) := (Below.refl _ _).alloc (Nat.le_refl _) _
  have HC := Lib.hid (answerB_any g hf 47 (fun _ _ => by kernel_rfl) (ReachR g) _ (hg.below hB1) (fun h W hW => reached_any g (mayB_of h) W hW))
  have HB := Lib.hid hB1
  clear hf hg hB1
  unfold gramV gramC at *
  go_enter Tryz.func14, Tryz.ntmps14
  go_wp2_with fail
  refine HC.out.mono ?_
  rintro e w3 ⟨hB3, ⟨hc, rfl⟩ | ⟨hc, M, B, hR, rfl, hBl, hk⟩⟩
  · have HB3 := Lib.hid (HB.out.trans (hB3.mono HB.out.size))
    have Hc := Lib.hid hc
    clear hB3 hc HC
    go_wp2
    go_ret2
    exact ⟨HB3.out, .inl ⟨Hc.out, rfl⟩⟩
  · have HB3 := Lib.hid (HB.out.trans (hB3.mono HB.out.size))
    have Hc := Lib.hid hc
    have HR := Lib.hid hR
    have HBl : Hid (w.heap.size ≤ B) := Lib.hid (Nat.le_trans HB.out.size hBl)
    have HK := Lib.hid hk
    clear hB3 hc HC hR hBl hk
    go_wp2
    go_ret2
    exact ⟨HB3.out, .inr ⟨Hc.out, M, B, HR.out, rfl, HBl.out, HK.out⟩⟩

set_option maxRecDepth 100000 in
set_option maxHeartbeats 1000000 in
/-- Nullable. -/
theorem Nullable_any (g : GramM) (hf : FitG g) (w : World) (hg : GIn w g) : Calls Tryz.prog 15 #[gramV g] w (TellPost w g (NullP g)) := by
  have hB1 : Below w.heap.size w (w.alloc (.cells (gramC g) 27)) := (Below.refl _ _).alloc (Nat.le_refl _) _
  have HC := Lib.hid (answerB_any g hf 48 (fun _ _ => by kernel_rfl) (NullP g) _ (hg.below hB1) (fun h W hW => nullable_any g (mayB_of h) hf.fit W hW))
  have HB := Lib.hid hB1
  clear hf hg hB1
  unfold gramV gramC at *
  go_enter Tryz.func15, Tryz.ntmps15
  go_wp2_with fail
  refine HC.out.mono ?_
  rintro e w3 ⟨hB3, ⟨hc, rfl⟩ | ⟨hc, M, B, hR, rfl, hBl, hk⟩⟩
  · have HB3 := Lib.hid (HB.out.trans (hB3.mono HB.out.size))
    have Hc := Lib.hid hc
    clear hB3 hc HC
    go_wp2
    go_ret2
    exact ⟨HB3.out, .inl ⟨Hc.out, rfl⟩⟩
  · have HB3 := Lib.hid (HB.out.trans (hB3.mono HB.out.size))
    have Hc := Lib.hid hc
    have HR := Lib.hid hR
    have HBl : Hid (w.heap.size ≤ B) := Lib.hid (Nat.le_trans HB.out.size hBl)
    have HK := Lib.hid hk
    clear hB3 hc HC hR hBl hk
    go_wp2
    go_ret2
    exact ⟨HB3.out, .inr ⟨Hc.out, M, B, HR.out, rfl, HBl.out, HK.out⟩⟩
end Go.Proofs.YtodnlcbnbkkanaaGreatDoor
end
section
namespace Go.Proofs.YtodnlcbnbkkanaaGreatDoor
open Go Go.RowKit

/-- What a list of numbers in memory of one's own is. -/
def IntsPost (w : World) (g : GramM) (e : Ending) (w' : World) : Prop := ∃ (S : List Int) (B c : Nat), ShortP g S ∧ e = .returned (.slice (some ⟨B, 0, none⟩) S.length c) ∧ w.heap.size ≤ B ∧ RowInt w' (some ⟨B, 0, none⟩) S ∧ Below w.heap.size w w'

theorem cellsI (S : List Int) : cellsL intC S = S.map (Value.int .i64) := by
  unfold cellsL intC
  induction S with
  | nil => rfl
  | cons x r ih => simp only [List.flatMap_cons, List.map_cons, ih]; rfl
theorem arrL_cells {S : List Int} {W : World} {B : Nat} (h : Blk W B 127 (ints (arrL S))) : ∀ j u, (cellsL intC S)[j]? = some u → W.cell? ((⟨B, 0, none⟩ : Addr).add j) = some u := by
  intro j u hj
  rw [cellsI] at hj
  rw [add_off, Nat.zero_add, h.cell]
  have hjl : j < S.length := by have := (List.getElem?_eq_some_iff.1 hj).1; simpa using this
  unfold ints arrL
  rw [List.getElem?_toArray, List.map_append, List.getElem?_append_left (by simpa using hjl)]
  exact hj

set_option maxRecDepth 100000 in
set_option maxHeartbeats 4000000 in
/-- Shortest's closure. -/
theorem f59_any (g : GramM) (hm : MayB g) (hs : MaySet g) (w : World) (hg : GIn w g) : Calls Tryz.prog 59 #[gramV g] w (IntsPost w g) := by
  obtain ⟨i3, ti3, tz3, ts3, tb3⟩ := info_parts Tryz.info3
  have hB1 : Below w.heap.size w (w.alloc (.cells (gramC g) 27)) := (Below.refl _ _).alloc (Nat.le_refl _) _
  have HC := Lib.hid (shortest_any g hm hs _ (hg.below hB1))
  have HB := Lib.hid hB1
  have HK := Lib.hid (Blk.new w 27 (gramC g))
  have hn1 := hm.sorts1
  have hn2 := hm.sorts2
  obtain ⟨n, hn⟩ : ∃ n, n = g.sorts.length := ⟨_, rfl⟩
  have HN := Lib.hid hn
  clear hm hs hg hB1
  unfold gramV gramC at *
  rw [← hn] at HC HB HK hn1 hn2 ⊢
  clear hn
  go_enter Tryz.func59, Tryz.ntmps59
  go_wp2_with fail
  refine HC.out.mono ?_
  rintro e w3 ⟨S, B, hS, rfl, hBl, hk, hB3⟩
  have HS := Lib.hid hS
  have hSl : S.length = n := by rw [hS.1, HN.out]
  have HA := Lib.hid hk
  have HB3 := Lib.hid (HB.out.trans (hB3.mono HB.out.size))
  have HK3 := Lib.hid (HK.out.below hB3 HK.out.lt)
  have lB := hk.lt
  have hBl2 := Nat.le_trans HB.out.size hBl
  have HSl := Lib.hid hSl
  clear hS hk hB3 HC HK hBl hSl
  go_wp2_with fail
  refine wp_region_still_tail 6 (by kernel_rfl) (by kernel_rfl) ?_
  show wpStill _ _ (World.drew w3) _ _ _
  obtain ⟨W, hW⟩ : ∃ W, W = w3.drew := ⟨_, rfl⟩
  rw [← hW]
  have HW := Lib.hid hW
  have HAW : Hid (Blk W B 127 (ints (arrL S))) := Lib.hid (by rw [hW]; exact HA.out)
  have HKW : Hid (Blk W w.heap.size 27 #[.slice g.sa n g.sc, .slice g.pa g.prods.length g.pc, .int .i64 g.start, .slice g.fa g.forbid.length g.fc, .slice g.wa g.follow.length g.wc]) := Lib.hid (by rw [hW]; exact HK3.out)
  have HBW : Hid (Below w.heap.size w W) := Lib.hid (by rw [hW]; exact HB3.out.drew)
  have c0 := HKW.out.cell 0
  have l0 := HKW.out.lt
  have lB := HAW.out.lt
  clear hW HA HK3 HB3
  have z1 : (n : Int) ≤ 1000 := by omega
  have z0 : (0 : Int) ≤ (n : Int) := by omega
  simp only [List.take_succ_cons, List.take_zero, List.drop_succ_cons, List.drop_zero]
  repeat still_step
  refine wpStill_nil ?_
  show wpList _ _ _ _ _ (World.drew w3)
  rw [← HW.out]
  clear HW
  have hown : W.ownsRow w.heap.size 3 1 (.slice none 0 0) 0 [] := ⟨rfl, .inl ⟨rfl, rfl⟩⟩
  have HOw := Lib.hid hown
  clear hown
  have hsz : w.heap.size ≤ W.heap.size := HBW.out.size
  have HSz := Lib.hid hsz
  clear hsz
  go_wp2_with (at_builtin; (refine wpList_append_own W rfl (.const (.slice none 0 0)) (.tmp 11) 48 rfl w.heap.size 3 i3 _ 1 8 Tryz.underlying48 ti3 tz3 ts3 tb3 rfl (by omega) _ 0 [] rfl HOw.out ⟨B, 0, none⟩ n 1000 (cellsL intC S) rfl (by rw [cellsI, List.length_map, HSl.out, Nat.mul_one]) (arrL_cells HAW.out) (fun u hu => ?_) ?_ ?_ HSz.out (fun v' w' h1 h2 _ => ?_)))
  · rw [cellsI] at hu
    obtain ⟨z, _, rfl⟩ := List.mem_map.1 hu
    rfl
  · unfold maxLen; omega
  · omega
  · rw [Nat.zero_add, List.nil_append] at h1
    have hB : Below w.heap.size w w' := own_fin HOw.out HBW.out (Nat.le_refl _) h2
    have h1' : w'.ownsRow w.heap.size 3 1 v' S.length (cellsL intC S) := by rw [HSl.out]; exact h1
    obtain ⟨a', c', hv, hr⟩ := own_row (G := NoG) (cs := intC) (fun _ => rfl) h1' (fun _ _ => trivial)
    obtain ⟨a2, c2, hv2, hg2, _⟩ := own_slice h1'
    rw [hv] at hv2
    obtain ⟨g2, he, hge⟩ := hg2 0 (by rw [HSl.out]; omega)
    have ha : a' = some ⟨g2, 0, none⟩ := by rw [← he]; simp only [Value.slice.injEq] at hv2; exact hv2.1
    subst ha
    have HR := Lib.hid hr
    have HBw := Lib.hid hB
    subst hv
    clear h1 h1' h2 hB hr hv2 hg2
    go_wp2
    go_ret
    exact ⟨S, g2, c', HS.out, rfl, hge, HR.out, HBw.out⟩
/-- What Shortest tells. -/
def ShortTell (w : World) (g : GramM) (e : Ending) (w' : World) : Prop :=
  Below w.heap.size w w' ∧ ((checkB g = false ∧ e = .returned (.tuple #[.slice none 0 0, .int .i64 160])) ∨ (checkB g = true ∧ ∃ (S : List Int) (B c : Nat), ShortP g S ∧ e = .returned (.tuple #[.slice (some ⟨B, 0, none⟩) S.length c, .int .i64 0]) ∧ w.heap.size ≤ B ∧ RowInt w' (some ⟨B, 0, none⟩) S))

set_option maxRecDepth 100000 in
set_option maxHeartbeats 4000000 in
/-- answer, of numbers. -/
theorem answerI_any (g : GramM) (hf : FitG g) (w : World) (hg : GIn w g) :
    Calls Tryz.prog 58 #[gramV g, .func (.func 59) #[] #[]] w (ShortTell w g) := by
  have hB1 : Below w.heap.size w (w.alloc (.cells (gramC g) 27)) := (Below.refl _ _).alloc (Nat.le_refl _) _
  have HC := Lib.hid (check_any g _ (hg.below hB1) hf)
  have HB := Lib.hid hB1
  have HK := Lib.hid (Blk.new w 27 (gramC g))
  have HG := Lib.hid hg
  obtain ⟨b, hb⟩ : ∃ b, b = checkB g := ⟨_, rfl⟩
  have HBb := Lib.hid hb
  rw [← hb] at HC
  have HH := Lib.hid (fun h W hW => f59_any g (mayB_of (hb.symm.trans h)) (maySet_of (hb.symm.trans h)) W hW)
  clear hf hg hB1 hb
  unfold gramV gramC errI at *
  go_enter Tryz.func58, Tryz.ntmps58
  go_wp2_with fail
  refine HC.out.mono ?_
  rintro e w3 ⟨rfl, hB3⟩
  have HB3 := Lib.hid (HB.out.trans (hB3.mono HB.out.size))
  have HK3 := Lib.hid (HK.out.below hB3 HK.out.lt)
  clear hB3 HC
  cases b with
  | false =>
    rw [if_neg (by decide)]
    go_wp2
    go_ret2
    exact ⟨HB3.out, .inl ⟨HBb.out.symm, rfl⟩⟩
  | true =>
    rw [if_pos rfl]
    have HC2 := Lib.hid (HH.out rfl w3 (HG.out.below HB3.out))
    obtain ⟨c0, c1, c2, c3, c4⟩ := (show Blk w3 w.heap.size 27 (gramC g) from HK3.out).gram
    have l3 := HK3.out.lt
    clear HH
    go_wp2_with fail
    refine HC2.out.mono ?_
    rintro e w4 ⟨S, B, c, hR, rfl, hBl, hk, hB4⟩
    have HR := Lib.hid hR
    have HBl : Hid (w.heap.size ≤ B) := Lib.hid (Nat.le_trans HB3.out.size hBl)
    have HKk := Lib.hid hk
    have HB4 := Lib.hid (HB3.out.trans (hB4.mono HB3.out.size))
    clear hR hBl hk hB4 HC2
    go_wp2
    go_ret2
    exact ⟨HB4.out, .inr ⟨HBb.out.symm, S, B, c, HR.out, rfl, HBl.out, HKk.out⟩⟩

set_option maxRecDepth 100000 in
set_option maxHeartbeats 1000000 in
/-- Shortest. -/
theorem Shortest_any (g : GramM) (hf : FitG g) (w : World) (hg : GIn w g) : Calls Tryz.prog 28 #[gramV g] w (ShortTell w g) := by
  have hB1 : Below w.heap.size w (w.alloc (.cells (gramC g) 27)) := (Below.refl _ _).alloc (Nat.le_refl _) _
  have HC := Lib.hid (answerI_any g hf _ (hg.below hB1))
  have HB := Lib.hid hB1
  clear hf hg hB1
  unfold gramV gramC at *
  go_enter Tryz.func28, Tryz.ntmps28
  go_wp2_with fail
  refine HC.out.mono ?_
  rintro e w3 ⟨hB3, ⟨hc, rfl⟩ | ⟨hc, S, B, c, hR, rfl, hBl, hk⟩⟩
  · have HB3 := Lib.hid (HB.out.trans (hB3.mono HB.out.size))
    have Hc := Lib.hid hc
    clear hB3 hc HC
    go_wp2
    go_ret2
    exact ⟨HB3.out, .inl ⟨Hc.out, rfl⟩⟩
  · have HB3 := Lib.hid (HB.out.trans (hB3.mono HB.out.size))
    have Hc := Lib.hid hc
    have HR := Lib.hid hR
    have HBl : Hid (w.heap.size ≤ B) := Lib.hid (Nat.le_trans HB.out.size hBl)
    have HK := Lib.hid hk
    clear hB3 hc HC hR hBl hk
    go_wp2
    go_ret2
    exact ⟨HB3.out, .inr ⟨Hc.out, S, B, c, HR.out, rfl, HBl.out, HK.out⟩⟩
end Go.Proofs.YtodnlcbnbkkanaaGreatDoor
end
