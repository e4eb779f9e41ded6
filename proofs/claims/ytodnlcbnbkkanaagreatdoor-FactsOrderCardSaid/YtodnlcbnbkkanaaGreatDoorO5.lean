import Derived.StillTail
import Derived.Lib.Builder
import Derived.Lib.UnsafeStr
import Derived.Lib.AppendStr
import Derived.RegionTactic
import Derived.BigRegion
import Derived.Test.YtodnlcbnbkkanaaGreatDoorO1
import Derived.Test.YtodnlcbnbkkanaaGreatDoorO2
import Derived.Test.YtodnlcbnbkkanaaGreatDoorO3
import Derived.Test.YtodnlcbnbkkanaaGreatDoorO4
section
namespace Go.Proofs.YtodnlcbnbkkanaaGreatDoor
open Go Go.RowKit Go.Maps

def AloneP (M : List Bool) (x : ProdM) (but : Nat) : Prop := ∀ (i : Nat) (s : SymM), x.right[i]? = some s → i ≠ but → filledQ M s = false
def AlonePost (w : World) (M : List Bool) (x : ProdM) (but : Nat) (e : Ending) (w' : World) : Prop := ∃ b : Bool, e = .returned (.bool b) ∧ (b = true ↔ AloneP M x but) ∧ Below w.heap.size w w'

set_option maxRecDepth 100000 in
set_option maxHeartbeats 4000000 in
theorem isAlone_any (x : ProdM) (but : Nat) (B : Nat) (M : List Bool) (w : World) (hb : Blk w B 4 (bools M)) (hM : M.length ≤ 1000) (hx : ProdIn w x) (hr : x.right.length ≤ 30) (hbut : but ≤ 30) (hs : ∀ s, s ∈ x.right → s.kind ≠ 0 → ∃ k : Nat, s.sort = k ∧ k < M.length) :
    Calls Tryz.prog 101 #[prodV x, .int .i64 but, .slice (some ⟨B, 0, none⟩) M.length M.length] w (AlonePost w M x but) := by
  have HA := Lib.hid hb
  have HRow : Hid (RowSym w x.ra x.right) := Lib.hid hx
  have HS := Lib.hid hs
  have lB := hb.lt
  obtain ⟨ra, hra⟩ : ∃ ra, ra = x.ra := ⟨_, rfl⟩
  obtain ⟨n, hn⟩ : ∃ n, n = x.right.length := ⟨_, rfl⟩
  have HN := Lib.hid hn
  rw [← hra] at HRow
  rw [← hn] at hr
  obtain ⟨m, hm⟩ : ∃ m, m = M.length := ⟨_, rfl⟩
  have HM := Lib.hid hm
  rw [← hm] at hM ⊢
  have hB1 : Hid (Below w.heap.size w (w.alloc (.cells (prodC x) 65))) := (Below.refl _ _).alloc (Nat.le_refl _) _
  have HE : Hid (prodC x = #[.int .i64 x.left, .slice ra n x.rc, .string x.cons, .int .i64 x.role, .bool x.prefer, .bool x.avoid, .int .i64 x.frm]) := Lib.hid (by rw [hra, hn]; rfl)
  unfold prodV
  rw [HE.out] at hB1 ⊢
  clear hb hx hs hra hn hm HE
  go_enter Tryz.func101, Tryz.ntmps101
  go_wp2
  go_loopw [12] (fun vj wr => ∃ (j : Nat), vj = .int .i64 j ∧ j ≤ n ∧ Hid (Below w.heap.size w wr) ∧ Hid (∀ (i : Nat) (s : SymM), i < j → x.right[i]? = some s → i ≠ but → filledQ M s = false)) (fun vj _ => n - (intOf vj).toNat)
  case atStart => exact ⟨0, rfl, Nat.zero_le _, hB1, Lib.hid (fun i s hi => by omega)⟩
  case round =>
    clear hB1
    obtain ⟨j, rfl, hj, HB, HQ⟩ := hrel
    by_cases hlt : j < n
    · obtain ⟨s, hs⟩ : ∃ s, x.right[j]? = some s := ⟨_, List.getElem?_eq_getElem (by rw [← HN.out]; exact hlt)⟩
      obtain ⟨b1, o1, rfl, hb1, hc1, _⟩ := HRow.out j s hs
      have hc1 := hc1.below HB.out hb1
      have hb1' := Nat.lt_of_lt_of_le hb1 HB.out.size
      obtain ⟨s0, s1, s2, s3, s4, s5⟩ := Sym_at hc1
      have z1 : (j : Int) < (n : Int) := by omega
      have z0 : (0 : Int) ≤ (j : Int) := by omega
      have HSk := Lib.hid (HS.out s (List.mem_of_getElem? hs))
      have HX := Lib.hid hs
      have HNext : Hid (j = but ∨ filledQ M s = false → ∀ (i : Nat) (t : SymM), i < j + 1 → x.right[i]? = some t → i ≠ but → filledQ M t = false) := Lib.hid (fun h i t hi ht hne => by
        by_cases e : i = j
        · subst e; rw [HX.out] at ht; cases ht
          rcases h with h | h
          · exact absurd h hne
          · exact h
        · exact HQ.out i t (by omega) ht hne)
      have HBad : Hid (j ≠ but → filledQ M s = true → ¬ AloneP M x but) := Lib.hid (fun h1 h2 h => by rw [h j s HX.out h1] at h2; cases h2)
      have HAr := Lib.hid (HA.out.below HB.out lB)
      have HBn : Hid (Below w.heap.size w (wr.alloc (.cells (symC s) 60))) := Lib.hid (HB.out.alloc HB.out.size _)
      have hbr : B < wr.heap.size := Nat.lt_of_lt_of_le lB HB.out.size
      clear hs hc1 HQ HX
      obtain ⟨sk, ss, so⟩ := s
      unfold symC at HBn
      dsimp only at *
      by_cases hjb : j = but
      · subst hjb
        have HZ := Lib.hid (HNext.out (.inl rfl))
        clear HNext HBad HSk HAr
        go_wp2
        go_roundw
        case rel => exact ⟨j + 1, by go_num, by omega, HBn, HZ⟩
        case measure => simp [intOf]; omega
      · have hjb2 : ((j : Int) == (but : Int)) = false := by simp; omega
        have hjb3 : ((j : Int) != (but : Int)) = true := by simp; omega
        have hjb4 : ¬ ((j : Int) = (but : Int)) := by omega
        have HJ := Lib.hid hjb
        clear hjb
        cases k0 : (sk == 0) with
        | true =>
          have HE := Lib.hid (HBad.out HJ.out (by unfold filledQ; rw [k0]; rfl))
          clear HNext HBad HSk HAr
          go_wp2
          go_ret
          exact ⟨false, rfl, ⟨fun h => (by cases h), fun h => absurd h HE.out⟩, HBn.out⟩
        | false =>
          obtain ⟨k, rfl, hk⟩ := HSk.out (by simpa using k0)
          have cA := HAr.out.cell k
          rw [bools_at M k hk] at cA
          obtain ⟨v, hv⟩ : ∃ v, v = lv M (k : Int) := ⟨_, rfl⟩
          rw [← hv] at cA
          have HV := Lib.hid hv
          have kz1 : (k : Int) < (m : Int) := by have := HM.out; omega
          have kz0 : (0 : Int) ≤ (k : Int) := by omega
          clear hv hk HSk HAr
          cases v with
          | true =>
            have HZ := Lib.hid (HNext.out (.inr (by unfold filledQ; rw [k0, ← HV.out]; rfl)))
            clear HNext HBad
            go_wp2
            go_roundw
            case rel => exact ⟨j + 1, by go_num, by omega, HBn, HZ⟩
            case measure => simp [intOf]; omega
          | false =>
            have HE := Lib.hid (HBad.out HJ.out (by unfold filledQ; rw [k0, ← HV.out]; rfl))
            clear HNext HBad
            go_wp2
            go_ret
            exact ⟨false, rfl, ⟨fun h => (by cases h), fun h => absurd h HE.out⟩, HBn.out⟩
    · obtain rfl : j = n := by omega
      have HZ : Hid (AloneP M x but) := Lib.hid (fun i s hi hne => HQ.out i s (by have := (List.getElem?_eq_some_iff.1 hi).1; have := HN.out; omega) hi hne)
      clear HQ
      go_wp2
      go_ret
      exact ⟨true, rfl, ⟨fun _ => HZ.out, fun _ => rfl⟩, HB.out⟩
end Go.Proofs.YtodnlcbnbkkanaaGreatDoor
end
section
namespace Go.Proofs.YtodnlcbnbkkanaaGreatDoor
open Go Go.RowKit Go.Maps

def LeadX (g : GramM) (M : List Bool) (x : ProdM) (i : Nat) (p : Int × Int) : Prop := ∃ s, x.right[i]? = some s ∧ s.kind = 1 ∧ AloneP M x i ∧ p = (x.left, s.sort)
def LeadU (g : GramM) (M : List Bool) (l : List ProdM) (j i : Nat) (p : Int × Int) : Prop := ∃ (j' i' : Nat) (x : ProdM), l[j']? = some x ∧ (j' < j ∨ (j' = j ∧ i' < i)) ∧ LeadX g M x i' p
theorem LeadU.zero (g : GramM) (M : List Bool) (l : List ProdM) (p : Int × Int) : LeadU g M l 0 0 p ↔ False := ⟨fun ⟨j', i', x, _, h, _⟩ => by omega, fun h => h.elim⟩
theorem LeadU.next {g : GramM} {M : List Bool} {l : List ProdM} {j : Nat} {x : ProdM} (hx : l[j]? = some x) (p : Int × Int) : LeadU g M l j x.right.length p ↔ LeadU g M l (j + 1) 0 p := by
  constructor
  · rintro ⟨j', i', y, h1, h2, h3⟩
    exact ⟨j', i', y, h1, by omega, h3⟩
  · rintro ⟨j', i', y, h1, h2, h3⟩
    refine ⟨j', i', y, h1, ?_, h3⟩
    by_cases e : j' = j
    · subst e
      rw [hx] at h1; cases h1
      obtain ⟨s, hs, _⟩ := h3
      exact .inr ⟨rfl, (List.getElem?_eq_some_iff.1 hs).1⟩
    · exact .inl (by omega)
theorem LeadU.no {g : GramM} {M : List Bool} {l : List ProdM} {j i : Nat} {x : ProdM} (hx : l[j]? = some x) {s : SymM} (hs : x.right[i]? = some s) (h : s.kind ≠ 1 ∨ ¬ AloneP M x i) (p : Int × Int) : LeadU g M l j i p ↔ LeadU g M l j (i + 1) p := by
  constructor
  · rintro ⟨j', i', y, h1, h2, h3⟩
    exact ⟨j', i', y, h1, by omega, h3⟩
  · rintro ⟨j', i', y, h1, h2, h3⟩
    refine ⟨j', i', y, h1, ?_, h3⟩
    by_cases e : j' = j ∧ i' = i
    · obtain ⟨rfl, rfl⟩ := e
      rw [hx] at h1; cases h1
      obtain ⟨t, ht, hk, ha, _⟩ := h3
      rw [hs] at ht; cases ht
      rcases h with h | h
      · exact absurd hk h
      · exact absurd ha h
    · omega
theorem LeadU.yes {g : GramM} {M : List Bool} {l : List ProdM} {j i : Nat} {x : ProdM} (hx : l[j]? = some x) {s : SymM} (hs : x.right[i]? = some s) (hk : s.kind = 1) (ha : AloneP M x i) (p : Int × Int) : (p = (x.left, s.sort) ∨ LeadU g M l j i p) ↔ LeadU g M l j (i + 1) p := by
  constructor
  · rintro (rfl | ⟨j', i', y, h1, h2, h3⟩)
    · exact ⟨j, i, x, hx, .inr ⟨rfl, by omega⟩, s, hs, hk, ha, rfl⟩
    · exact ⟨j', i', y, h1, by omega, h3⟩
  · rintro ⟨j', i', y, h1, h2, h3⟩
    by_cases e : j' = j ∧ i' = i
    · obtain ⟨rfl, rfl⟩ := e
      rw [hx] at h1; cases h1
      obtain ⟨t, ht, _, _, hp⟩ := h3
      rw [hs] at ht; cases ht
      exact .inl hp
    · exact .inr ⟨j', i', y, h1, by omega, h3⟩

structure LJ (g : GramM) (w : World) (Bn b N : Nat) (M L : List Bool) (a : Option Addr) (c : Nat) (j i : Nat) (W : World) : Prop where
  bn : Blk W Bn 4 (bools M)
  own : OwnP N W a c (livL g L)
  low : Below w.heap.size w W
  hx : w.heap.size ≤ Bn ∧ Bn < b ∧ b < N ∧ N ≤ W.heap.size
  map : ∃ cnt, MapL W b cnt (LeadU g M (livL g L) j i) ∧ cnt ≤ j * 30 + i
section
variable {g : GramM} {w : World} {Bn b N : Nat} {M L : List Bool} {a : Option Addr} {c : Nat} {j i : Nat} {W V : World}
theorem LJ.below (h : LJ g w Bn b N M L a c j i W) (hB : Below W.heap.size W V) : LJ g w Bn b N M L a c j i V :=
  ⟨h.bn.below hB h.bn.lt, h.own.below hB (Nat.le_refl _), h.low.trans (hB.mono h.low.size), by have := h.hx; have := hB.size; omega, by
    obtain ⟨cnt, hm, hc⟩ := h.map
    exact ⟨cnt, hm.below hB hm.lt, hc⟩⟩
theorem LJ.same {j' i' : Nat} (h : LJ g w Bn b N M L a c j i W) (he : ∀ p, LeadU g M (livL g L) j i p ↔ LeadU g M (livL g L) j' i' p) (hc : j * 30 + i ≤ j' * 30 + i') : LJ g w Bn b N M L a c j' i' W :=
  ⟨h.bn, h.own, h.low, h.hx, by
    obtain ⟨cnt, hm, hc'⟩ := h.map
    exact ⟨cnt, hm.of_iff he, Nat.le_trans hc' hc⟩⟩
theorem LJ.put (h : LJ g w Bn b N M L a c j i W) {n : Nat} {K : Int × Int → Prop} (hg : W.grownBy V (some b)) (hm : MapL V b n K) {j' i' : Nat} (he : ∀ p, K p ↔ LeadU g M (livL g L) j' i' p) (hc : n ≤ j' * 30 + i') : LJ g w Bn b N M L a c j' i' V := by
  have hx := h.hx
  refine ⟨h.bn.kept hg (by simp; omega), ⟨?_, h.own.cap⟩, below_grown h.low hg (Nat.le_refl _) (by omega), by have := hg.size; omega, n, hm.of_iff he, hc⟩
  rcases h.own.row with h1 | ⟨B, cs, h1, h2, h3, h4⟩
  · exact .inl h1
  · exact .inr ⟨B, cs, h1, h2, h3.kept hg (by simp; omega), h4⟩
end

def LeadsPost (g : GramM) (w : World) (e : Ending) (w' : World) : Prop := ∃ (b cnt : Nat) (M L : List Bool), NullP g M ∧ Live g L ∧ e = .returned (.map (some b)) ∧ w.heap.size ≤ b ∧ MapL w' b cnt (LeadU g M (livL g L) (livL g L).length 0) ∧ cnt ≤ 30000 ∧ Below w.heap.size w w'

set_option maxRecDepth 100000 in
set_option maxHeartbeats 8000000 in
theorem leads_any (g : GramM) (hm : MayB g) (hf : Fit g) (w : World) (hg : GIn w g) : Calls Tryz.prog 76 #[gramV g] w (LeadsPost g w) := by
  have hB1 : Below w.heap.size w (w.alloc (.cells (gramC g) 27)) := (Below.refl _ _).alloc (Nat.le_refl _) _
  have HNul := Lib.hid (nullable_any g hm hf _ (hg.below hB1))
  have HLiv := Lib.hid (fun W (hW : Below w.heap.size w W) => living_any g hm hf W (hg.below hW))
  have HB := Lib.hid hB1
  have HK := Lib.hid (Blk.new w 27 (gramC g))
  have HMB := Lib.hid hm
  have HG := Lib.hid hg
  have hmm := @run_makeMap Tryz.prog
  clear hm hf hg hB1
  unfold gramV gramC at *
  go_enter Tryz.func76, Tryz.ntmps76
  go_wp2_with fail
  refine HNul.out.mono ?_
  rintro e w3 ⟨M, Bn, hM, rfl, hBl, hbk, hB3⟩
  have HM := Lib.hid hM
  have HK3 := Lib.hid (HK.out.below hB3 HK.out.lt)
  have hl3 : w.heap.size ≤ w3.heap.size := Nat.le_trans HB.out.size hB3.size
  have hB4 : Below w.heap.size w (w3.alloc (.map #[] 0)) := (HB.out.trans (hB3.mono HB.out.size)).alloc hl3 _
  have HM0 := Lib.hid (MapL.made w3)
  have HBN := Lib.hid (hbk.alloc (.map #[] 0))
  have HC2 := Lib.hid (HLiv.out _ hB4)
  have HB4 := Lib.hid hB4
  have hBn1 : w.heap.size ≤ Bn := Nat.le_trans HB.out.size hBl
  have hBn2 := hbk.lt
  have hKl := HK3.out.lt
  obtain ⟨d0, d1, d2, d3, d4⟩ := (show Blk w3 w.heap.size 27 (gramC g) from HK3.out).gram
  have hMl := hM.1
  have HMl := Lib.hid hMl
  obtain ⟨m, hm⟩ : ∃ m, m = M.length := ⟨_, rfl⟩
  rw [← hm]
  have Hm := Lib.hid hm
  clear hM hbk hB3 hB4 HNul HLiv HB HK hBl hMl hm
  go_wp2_with fail
  refine HC2.out.mono ?_
  rintro e w5 ⟨L, a, c, hL, rfl, hO, hB5⟩
  have hl5 := hB5.size
  rw [World.size_alloc] at hO hl5
  have HJ0 : Hid (LJ g w Bn w3.heap.size (w3.heap.size + 1) M L a c 0 0 w5) := Lib.hid ⟨HBN.out.below hB5 HBN.out.lt, hO, HB4.out.trans (hB5.mono HB4.out.size), ⟨hBn1, hBn2, by omega, hl5⟩, 0, (HM0.out.below hB5 HM0.out.lt).of_iff (fun p => (LeadU.zero g M _ p).symm), by omega⟩
  have HL := Lib.hid hL
  have hln := livL_len g L
  have hln2 := HMB.out.prods
  obtain ⟨n, hn⟩ : ∃ n, n = (livL g L).length := ⟨_, rfl⟩
  have HN := Lib.hid hn
  rw [← hn] at hln ⊢
  obtain ⟨b, hb⟩ : ∃ b, b = w3.heap.size := ⟨_, rfl⟩
  rw [← hb] at HJ0 hl3 hBn2 ⊢
  clear hL hO hB5 hn HC2 HB4 HBN HM0 hl5 HK3 hb d0 d1 d2 d3 d4 hKl
  go_wp2
  go_loopw [15] (fun vj wr => ∃ (j : Nat), vj = .int .i64 j ∧ j ≤ n ∧ Hid (LJ g w Bn b (b + 1) M L a c j 0 wr)) (fun vj _ => n - (intOf vj).toNat)
  case atStart => exact ⟨0, rfl, Nat.zero_le _, HJ0⟩
  case round =>
    clear HJ0
    obtain ⟨j, rfl, hj, K⟩ := hrel
    by_cases hlt : j < n
    · obtain ⟨x, hx⟩ : ∃ x, (livL g L)[j]? = some x := ⟨_, List.getElem?_eq_getElem (by rw [← HN.out]; exact hlt)⟩
      have hxm := livL_mem.1 (List.mem_of_getElem? hx)
      have HXM := Lib.hid hxm
      have HRow := K.out.own.rowProd (fun y hy => (RowOf.mem HG.out.prods (livL_mem.1 hy).1).below K.out.low)
      obtain ⟨b1, o1, rfl, hb1, hc1, hi1⟩ := HRow j x hx
      obtain ⟨x0, x1, x2, x3, x4, x5, x6⟩ := Prod_at hc1
      have hB1 : Below wr.heap.size wr (wr.alloc (.cells (prodC x) 65)) := (Below.refl _ _).alloc (Nat.le_refl _) _
      have HJ0 := Lib.hid (K.out.below hB1)
      have HXB := Lib.hid (Blk.new wr 65 (prodC x))
      have hbw : b + 1 ≤ wr.heap.size := K.out.hx.2.2.2
      have HX := Lib.hid hx
      have hr := HMB.out.right x hxm.1
      have z1 : (j : Int) < (n : Int) := by omega
      have z0 : (0 : Int) ≤ (j : Int) := by omega
      have HPI : Hid (ProdIn w x) := Lib.hid (RowOf.mem HG.out.prods hxm.1)
      obtain ⟨k, hk, hkn⟩ := HMB.out.left x hxm.1
      obtain ⟨q, hq⟩ : ∃ q, q = x.right.length := ⟨_, rfl⟩
      have Hq := Lib.hid hq
      obtain ⟨ra, hra⟩ : ∃ ra, ra = x.ra := ⟨_, rfl⟩
      have Hra := Lib.hid hra
      have HE : Hid (prodC x = #[.int .i64 (k : Int), .slice ra q x.rc, .string x.cons, .int .i64 x.role, .bool x.prefer, .bool x.avoid, .int .i64 x.frm]) := Lib.hid (by rw [hq, hra, ← hk]; rfl)
      have HKl := Lib.hid hk
      have hkl2 := HMB.out.sorts2
      rw [← hq] at x1 hr
      rw [← hra] at x1
      rw [hk] at x0
      rw [HE.out] at HXB HJ0
      clear hx hxm HRow hc1 hi1 hB1 K hq hra hk
      go_wp2
      obtain ⟨wo, rfl⟩ : ∃ wo : World, wo = wr := ⟨_, rfl⟩
      go_loopw [22] (fun vi wr => ∃ (i : Nat), vi = .int .i64 i ∧ i ≤ q ∧ Hid (LJ g w Bn b (b + 1) M L (some ⟨b1, o1, none⟩) c j i wr ∧ Blk wr wo.heap.size 65 #[.int .i64 (k : Int), .slice ra q x.rc, .string x.cons, .int .i64 x.role, .bool x.prefer, .bool x.avoid, .int .i64 x.frm])) (fun vi _ => q - (intOf vi).toNat)
      case atStart => exact ⟨0, rfl, Nat.zero_le _, Lib.hid ⟨HJ0.out, HXB.out⟩⟩
      case round =>
        clear HJ0 HXB x0 x1 x2 x3 x4 x5 x6 hb1
        obtain ⟨i, rfl, hi, K⟩ := hrel
        by_cases hli : i < q
        · obtain ⟨s, hs⟩ : ∃ s, x.right[i]? = some s := ⟨_, List.getElem?_eq_getElem (by rw [← Hq.out]; exact hli)⟩
          have hsm := List.mem_of_getElem? hs
          have HRow : RowSym w ra x.right := by have h := HPI.out; rw [Hra.out]; exact h
          obtain ⟨b2, o2, rfl, hb2, hc2, _⟩ := HRow i s hs
          have hc2 := hc2.below K.out.1.low hb2
          have hb2' := Nat.lt_of_lt_of_le hb2 K.out.1.low.size
          obtain ⟨s0, s1, s2, s3, s4, s5⟩ := Sym_at hc2
          have y1 : (i : Int) < (q : Int) := by omega
          have y0 : (0 : Int) ≤ (i : Int) := by omega
          have HS := Lib.hid hs
          have hB2 : Below wr.heap.size wr (wr.alloc (.cells (symC s) 60)) := (Below.refl _ _).alloc (Nat.le_refl _) _
          have HJ1 := Lib.hid (K.out.1.below hB2)
          have HXB1 := Lib.hid (K.out.2.below hB2 K.out.2.lt)
          have HSB := Lib.hid (Blk.new wr 60 (symC s))
          have HK1 : Hid (s.kind = 1 → ∃ t : Nat, s.sort = t ∧ t < g.sorts.length) := Lib.hid (fun h => HMB.out.sym x HXM.out.1 s hsm h)
          have HAl := Lib.hid (isAlone_any x i Bn M _ HJ1.out.bn (by rw [HMl.out]; exact hkl2) (HPI.out.below HJ1.out.low) (HMB.out.right x HXM.out.1) (by omega) (fun t ht hk0 => by rw [HMl.out]; exact HMB.out.sym x HXM.out.1 t ht (kind_one HMB.out HXM.out.1 ht hk0)))
          have hwo := K.out.2.lt
          clear hs hsm HRow hc2 hB2 K
          rw [← Hm.out] at HAl
          unfold prodV at HAl
          rw [HE.out] at HAl
          obtain ⟨sk, ss, so⟩ := s
          unfold symC at HJ1 HXB1 HSB HAl
          dsimp only at *
          cases k1 : (sk == 1) with
          | false =>
            have HZ := Lib.hid (HJ1.out.same (j' := j) (i' := i + 1) (fun p => LeadU.no HX.out HS.out (.inl (by simpa using k1)) p) (by omega))
            clear HAl HK1 HJ1 HSB
            obtain ⟨c0, c1, c2, c3, c4, c5, c6⟩ := cells7 HXB1.out
            go_wp2
            go_roundw
            case rel => exact ⟨i + 1, by go_num, by omega, Lib.hid ⟨HZ.out, HXB1.out⟩⟩
            case measure => simp [intOf]; omega
          | true =>
            obtain ⟨t, rfl, ht⟩ := HK1.out (by simpa using k1)
            obtain ⟨c0, c1, c2, c3, c4, c5, c6⟩ := cells7 HXB1.out
            clear HK1
            go_wp2_with fail
            refine HAl.out.mono ?_
            rintro e w6 ⟨r, rfl, hr1, hB6⟩
            have HJ6 := Lib.hid (HJ1.out.below hB6)
            have HXB6 := Lib.hid (HXB1.out.below hB6 HXB1.out.lt)
            have HSB6 := Lib.hid (HSB.out.below hB6 HSB.out.lt)
            have HR1 := Lib.hid hr1
            clear hr1 hB6 HAl HJ1 HXB1 HSB c0 c1 c2 c3 c4 c5 c6
            cases r with
            | false =>
              have HZ := Lib.hid (HJ6.out.same (j' := j) (i' := i + 1) (fun p => LeadU.no HX.out HS.out (.inr (fun h => by have := HR1.out.2 h; cases this)) p) (by omega))
              go_wp2
              go_roundw
              case rel => exact ⟨i + 1, by go_num, by omega, Lib.hid ⟨HZ.out, HXB6.out⟩⟩
              case measure => simp [intOf]; omega
            | true =>
              obtain ⟨c0, c1, c2, c3, c4, c5, c6⟩ := cells7 HXB6.out
              obtain ⟨d0, d1, d2, d3, d4, d5⟩ := cells6 HSB6.out
              have l6 := HXB6.out.lt
              have l7 := HSB6.out.lt
              obtain ⟨cnt, hmp, hcnt⟩ := HJ6.out.map
              have hp64 : P64 ((k : Int), (t : Int)) := by unfold P64 I64; omega
              go_wp2_with (first
                | (at_mapUpdate; refine wpList_putL _ rfl _ _ _ rfl b cnt _ rfl hmp (by unfold maxLen; omega) ((k : Int), (t : Int)) hp64 rfl rfl ?_; intro w7 hm7 hg7)
                | go_in)
              have HZ := Lib.hid (HJ6.out.put (j' := j) (i' := i + 1) hg7 hm7 (fun p => by
                have := LeadU.yes (g := g) HX.out HS.out (by simpa using k1) (HR1.out.1 trivial) p
                rw [HKl.out] at this
                exact this) (by omega))
              have HXB7 := Lib.hid (HXB6.out.kept hg7 (by simp; omega))
              clear hm7 hg7 hmp HJ6 HXB6
              go_wp2
              go_roundw
              case rel => exact ⟨i + 1, by go_num, by omega, Lib.hid ⟨HZ.out, HXB7.out⟩⟩
              case measure => simp [intOf]; omega
        · obtain rfl : i = q := by omega
          have HZ : Hid (LJ g w Bn b (b + 1) M L (some ⟨b1, o1, none⟩) c (j + 1) 0 wr) := Lib.hid (K.out.1.same (fun p => by have h := LeadU.next (g := g) (M := M) HX.out p; rw [← Hq.out] at h; exact h) (by omega))
          clear K
          go_wp2
          go_roundw
          case rel => exact ⟨j + 1, by go_num, by omega, HZ⟩
          case measure => simp [intOf]; omega
    · obtain rfl : j = n := by omega
      go_wp2
      go_ret
      obtain ⟨cnt, h1, h2⟩ := K.out.map
      exact ⟨b, cnt, M, L, HM.out, HL.out, rfl, by omega, by have h := h1; rw [HN.out] at h; exact h, by omega, K.out.low⟩
end Go.Proofs.YtodnlcbnbkkanaaGreatDoor
end
section
namespace Go.Proofs.YtodnlcbnbkkanaaGreatDoor
open Go Go.RowKit

inductive Far (E : Nat → Nat → Prop) : Nat → Nat → Prop
  | one {a b : Nat} : E a b → Far E a b
  | more {a b c : Nat} : Far E a b → E b c → Far E a c
theorem Far.trans {E : Nat → Nat → Prop} {a b c : Nat} (h : Far E a b) (k : Far E b c) : Far E a c := by
  induction k with
  | one e => exact h.more e
  | more _ e ih => exact ih.more e
structure Vis (E : Nat → Nat → Prop) (j : Nat) (M M' : List Bool) (S : Nat → Prop) : Prop where
  len : M'.length = M.length
  le : ∀ k : Nat, M[k]? = some true → M'[k]? = some true
  closed : ∀ k t : Nat, M'[k]? = some true → M[k]? ≠ some true → E k t → M'[t]? = some true
  sound : ∀ k : Nat, M'[k]? = some true → M[k]? = some true ∨ Far E j k
  here : ∀ t, S t → M'[t]? = some true
theorem Vis.start (E : Nat → Nat → Prop) (j : Nat) (M : List Bool) : Vis E j M M (fun _ => False) := ⟨rfl, fun _ h => h, fun _ _ h h2 => absurd h h2, fun _ h => .inl h, fun _ h => h.elim⟩
theorem Vis.skip {E : Nat → Nat → Prop} {j : Nat} {M M' : List Bool} {S S' : Nat → Prop} (h : Vis E j M M' S) {t : Nat} (ht : M'[t]? = some true) (hs : ∀ k, S' k → S k ∨ k = t) : Vis E j M M' S' :=
  ⟨h.len, h.le, h.closed, h.sound, fun k hk => by
    rcases hs k hk with h1 | rfl
    · exact h.here k h1
    · exact ht⟩
theorem Vis.skip' {E : Nat → Nat → Prop} {j : Nat} {M M' : List Bool} {S S' : Nat → Prop} (h : Vis E j M M' S) (hs : ∀ k, S' k → S k) : Vis E j M M' S' := ⟨h.len, h.le, h.closed, h.sound, fun k hk => h.here k (hs k hk)⟩
theorem get_set {M : List Bool} {t k : Nat} (ht : t < M.length) : (M.set t true)[k]? = some true ↔ k = t ∨ M[k]? = some true := by
  rw [List.getElem?_set]
  by_cases e : t = k
  · subst e; simp [ht]
  · rw [if_neg e]
    constructor
    · exact .inr
    · rintro (h | h)
      · exact absurd h.symm e
      · exact h
theorem Vis.call {E : Nat → Nat → Prop} {j t : Nat} {M M' M2 : List Bool} {S S' : Nat → Prop} (h : Vis E j M M' S) (ht : t < M'.length) (he : E j t) (hc : Vis E t (M'.set t true) M2 (E t)) (hs : ∀ k, S' k → S k ∨ k = t) : Vis E j M M2 S' := by
  have ht2 : M2[t]? = some true := hc.le t ((get_set ht).2 (.inl rfl))
  have hle : ∀ k : Nat, M'[k]? = some true → M2[k]? = some true := fun k hk => hc.le k ((get_set ht).2 (.inr hk))
  refine ⟨by rw [hc.len, List.length_set, h.len], fun k hk => hle k (h.le k hk), fun k u hk hn e => ?_, fun k hk => ?_, fun k hk => ?_⟩
  · by_cases c : (M'.set t true)[k]? = some true
    · rcases (get_set ht).1 c with rfl | c
      · exact hc.here u e
      · exact hle u (h.closed k u c hn e)
    · exact hc.closed k u hk c e
  · rcases hc.sound k hk with c | c
    · rcases (get_set ht).1 c with rfl | c
      · exact .inr (.one he)
      · exact h.sound k c
    · exact .inr ((Far.one he).trans c)
  · rcases hs k hk with h1 | rfl
    · exact hle k (h.here k h1)
    · exact ht2
theorem Vis.all {E : Nat → Nat → Prop} {j n : Nat} {M' : List Bool} (h : Vis E j (List.replicate n false) M' (E j)) (k : Nat) : M'[k]? = some true ↔ Far E j k := by
  have hno : ∀ k : Nat, (List.replicate n false)[k]? ≠ some true := fun k hk => by
    rw [List.getElem?_replicate] at hk
    split at hk <;> simp at hk
  constructor
  · intro hk
    exact (h.sound k hk).resolve_left (hno k)
  · intro hk
    induction hk with
    | one e => exact h.here _ e
    | more _ e ih => exact h.closed _ _ ih (hno _) e

structure NextIn (B : Nat) (vals : List Value) (rows : List (List Int)) (n : Nat) (W : World) : Prop where
  blk : Blk W B 48 vals.toArray
  vlen : vals.length = n
  rlen : rows.length = n
  row : ∀ (k : Nat) (v : Value) (r : List Int), vals[k]? = some v → rows[k]? = some r → ∃ a c, v = .slice a r.length c ∧ RowInt W a r
theorem NextIn.below {B : Nat} {vals : List Value} {rows : List (List Int)} {n : Nat} {W V : World} (h : NextIn B vals rows n W) (hB : Below W.heap.size W V) : NextIn B vals rows n V :=
  ⟨h.blk.below hB h.blk.lt, h.vlen, h.rlen, fun k v r hv hr => by
    obtain ⟨a, c, h1, h2⟩ := h.row k v r hv hr
    exact ⟨a, c, h1, h2.belowN hB⟩⟩
def stepE (rows : List (List Int)) (k t : Nat) : Prop := ∃ r, rows[k]? = some r ∧ (t : Int) ∈ r

structure VJ (w0 : World) (N : Nat) (rows : List (List Int)) (n Bn Bx By Bm Bv : Nat) (M : List Bool) (W : World) : Prop where
  bn : Blk W Bn 111 #[.slice (some ⟨Bx, 0, none⟩) n n]
  by_ : Blk W By 31 #[.slice (some ⟨Bm, 0, none⟩) n n]
  bm : Blk W Bm 4 (bools M)
  bv : Blk W Bv 144 #[.func (.func 102) #[] #[.pointer (some ⟨Bn, 0, none⟩), .pointer (some ⟨By, 0, none⟩), .pointer (some ⟨Bv, 0, none⟩)]]
  len : M.length = n
  low : Below N w0 W
  hx : N ≤ Bm ∧ Bn ≠ Bm ∧ By ≠ Bm ∧ Bv ≠ Bm ∧ N ≤ w0.heap.size
theorem VJ.set {w0 : World} {N : Nat} {rows : List (List Int)} {n Bn Bx By Bm Bv : Nat} {M : List Bool} {W : World} (h : VJ w0 N rows n Bn Bx By Bm Bv M W) (k : Nat) : VJ w0 N rows n Bn Bx By Bm Bv (M.set k true) (W.setCell ⟨Bm, k, none⟩ (.bool true)) :=
  ⟨h.bn.other h.hx.2.1 _, h.by_.other h.hx.2.2.1 _, by rw [← bools_set]; exact h.bm.set k _, h.bv.other h.hx.2.2.2.1 _, by rw [List.length_set]; exact h.len, h.low.setCell (p := ⟨Bm, k, none⟩) h.hx.1 _, h.hx⟩

set_option maxRecDepth 100000 in
set_option maxHeartbeats 8000000 in
theorem visit_any (w0 : World) (N : Nat) (vals : List Value) (rows : List (List Int)) (n Bn Bx By Bm Bv : Nat) (hn : n ≤ 1000) (hNx : NextIn Bx vals rows n w0) (hN : N = w0.heap.size) (hlen : ∀ r, r ∈ rows → r.length ≤ 100000) (hin : ∀ r, r ∈ rows → ∀ t, t ∈ r → ∃ k : Nat, t = k ∧ k < n) :
    ∀ (d : Nat) (M : List Bool) (j : Nat) (w : World), M.count false ≤ d → j < n → VJ w0 N rows n Bn Bx By Bm Bv M w →
      Calls Tryz.prog 102 #[.int .i64 j, .pointer (some ⟨Bn, 0, none⟩), .pointer (some ⟨By, 0, none⟩), .pointer (some ⟨Bv, 0, none⟩)] w fun e w' => e = .returned (.tuple #[]) ∧ ∃ M', VJ w0 N rows n Bn Bx By Bm Bv M' w' ∧ Vis (stepE rows) j M M' (stepE rows j) := by
  intro d
  induction d using Nat.strongRecOn with
  | ind d ih =>
  intro M j w hd hj hJ
  obtain ⟨v, hv⟩ : ∃ v, vals[j]? = some v := ⟨_, List.getElem?_eq_getElem (by rw [hNx.vlen]; exact hj)⟩
  obtain ⟨r, hr⟩ : ∃ r, rows[j]? = some r := ⟨_, List.getElem?_eq_getElem (by rw [hNx.rlen]; exact hj)⟩
  obtain ⟨ra, rc, rfl, hrow⟩ := hNx.row j v r hv hr
  have cb := (hNx.blk.below (hN ▸ hJ.low) hNx.blk.lt).cell j
  have lb := (hNx.blk.below (hN ▸ hJ.low) hNx.blk.lt).lt
  rw [List.getElem?_toArray, hv] at cb
  have HRow := Lib.hid hrow
  have c1 := hJ.bn.cell 0
  have l1 := hJ.bn.lt
  have HJ := Lib.hid hJ
  have HIh := Lib.hid ih
  have HD := Lib.hid hd
  have HR := Lib.hid hr
  have hrl := hlen r (List.mem_of_getElem? hr)
  have HIn := Lib.hid (hin r (List.mem_of_getElem? hr))
  have HN := Lib.hid hN
  obtain ⟨q, hq⟩ : ∃ q, q = r.length := ⟨_, rfl⟩
  have Hq := Lib.hid hq
  rw [← hq] at cb hrl
  have z1 : (j : Int) < (n : Int) := by omega
  have z0 : (0 : Int) ≤ (j : Int) := by omega
  clear hNx hlen hin hJ ih hd hr hv hrow hq hN
  go_enter Tryz.func102, Tryz.ntmps102
  go_wp2
  go_loopw [12] (fun vi wr => ∃ (i : Nat) (M' : List Bool), vi = .int .i64 i ∧ i ≤ q ∧ Hid (VJ w0 N rows n Bn Bx By Bm Bv M' wr ∧ Vis (stepE rows) j M M' (fun t => ∃ i', i' < i ∧ r[i']? = some (t : Int)))) (fun vi _ => q - (intOf vi).toNat)
  case atStart => exact ⟨0, M, rfl, Nat.zero_le _, Lib.hid ⟨HJ.out, (Vis.start _ j M).skip' (fun k ⟨i', h, _⟩ => absurd h (by omega))⟩⟩
  case round =>
    clear HJ c1 l1 cb lb
    obtain ⟨i, M', rfl, hi, K⟩ := hrel
    by_cases hlt : i < q
    · obtain ⟨u, hu⟩ : ∃ u, r[i]? = some u := ⟨_, List.getElem?_eq_getElem (by rw [← Hq.out]; exact hlt)⟩
      obtain ⟨t, rfl, ht⟩ := HIn.out u (List.mem_of_getElem? hu)
      obtain ⟨b1, o1, rfl, hb1, hc1, _⟩ := HRow.out i _ hu
      have hc1 := hc1.below (HN.out ▸ K.out.1.low) hb1
      have hb1' : b1 < wr.heap.size := Nat.lt_of_lt_of_le hb1 K.out.1.low.size
      have y0 := Int_at hc1
      rw [Nat.mul_one] at y0
      have cy := K.out.1.by_.cell 0
      have ly := K.out.1.by_.lt
      have n1 : (i : Int) < (q : Int) := by omega
      have n0 : (0 : Int) ≤ (i : Int) := by omega
      have htl : t < M'.length := by rw [K.out.1.len]; exact ht
      have HMk := Lib.hid (mark_any M' Bm t n n wr K.out.1.bm htl (by rw [K.out.1.len]; exact Nat.le_refl _) (by omega))
      have HV := Lib.hid K.out.2
      have HSt := Lib.hid (K.out.1.set t)
      have HE : Hid (stepE rows j t) := Lib.hid ⟨r, HR.out, List.mem_of_getElem? hu⟩
      have hS : Hid (∀ k : Nat, (∃ i', i' < i + 1 ∧ r[i']? = some (k : Int)) → (∃ i', i' < i ∧ r[i']? = some (k : Int)) ∨ k = t) := Lib.hid fun k ⟨i', h1, h2⟩ => by
        by_cases e : i' = i
        · subst e; rw [hu] at h2; right; have := Option.some.inj h2; omega
        · exact .inl ⟨i', by omega, h2⟩
      have HTl := Lib.hid htl
      obtain ⟨v, hv⟩ : ∃ v, v = lv M' (t : Int) := ⟨_, rfl⟩
      have Hv := Lib.hid hv
      rw [← hv] at HMk
      clear hu hc1 K hv htl
      go_wp2_with fail
      refine HMk.out.mono ?_
      rintro e w4 ⟨rfl, hw4⟩
      have HSt4 : Hid (VJ w0 N rows n Bn Bx By Bm Bv (M'.set t true) w4) := Lib.hid (by rw [hw4]; exact HSt.out)
      clear hw4 HSt HMk
      cases v with
      | true =>
        have hsame := set_true_same HTl.out Hv.out.symm
        have HZ : Hid (VJ w0 N rows n Bn Bx By Bm Bv M' w4 ∧ Vis (stepE rows) j M M' (fun t => ∃ i', i' < i + 1 ∧ r[i']? = some (t : Int))) := Lib.hid ⟨by have h := HSt4.out; rw [hsame] at h; exact h, HV.out.skip (t := t) (by have h := lv_true Hv.out.symm; rwa [Int.toNat_natCast] at h) hS.out⟩
        clear hsame
        go_wp2
        go_roundw
        case rel => exact ⟨i + 1, M', by go_num, by omega, HZ⟩
        case measure => simp [intOf]; omega
      | false =>
        have cv := HSt4.out.bv.cell 0
        have lvv := HSt4.out.bv.lt
        have hcnt := count_set (lv_false_at HTl.out Hv.out.symm)
        have hcM : M'.count false ≤ M.count false := count_le HV.out.len HV.out.le
        have HC := Lib.hid (HIh.out ((M'.set t true).count false) (by have := HD.out; omega) (M'.set t true) t w4 (Nat.le_refl _) ht HSt4.out)
        clear hcnt hcM
        go_wp2_with fail
        refine HC.out.mono ?_
        rintro e w5 ⟨rfl, M2, hJ5, hV5⟩
        have HZ : Hid (VJ w0 N rows n Bn Bx By Bm Bv M2 w5 ∧ Vis (stepE rows) j M M2 (fun t => ∃ i', i' < i + 1 ∧ r[i']? = some (t : Int))) := Lib.hid ⟨hJ5, HV.out.call HTl.out HE.out hV5 hS.out⟩
        clear hJ5 hV5 HC cv
        go_wp2
        go_roundw
        case rel => exact ⟨i + 1, M2, by go_num, by omega, HZ⟩
        case measure => simp [intOf]; omega
    · obtain rfl : i = q := by omega
      go_wp2
      refine bodyPost_end (results_none rfl _ _ _) rfl ?_
      refine ⟨rfl, M', K.out.1, K.out.2.skip' fun k ⟨r', h1, h2⟩ => ?_⟩
      rw [HR.out] at h1
      cases h1
      obtain ⟨i', hi'⟩ := List.mem_iff_getElem?.1 h2
      exact ⟨i', by have := (List.getElem?_eq_some_iff.1 hi').1; have := Hq.out; omega, hi'⟩
def BackPost (w : World) (rows : List (List Int)) (j : Nat) (e : Ending) (w' : World) : Prop := ∃ b : Bool, e = .returned (.bool b) ∧ (b = true ↔ Far (stepE rows) j j) ∧ Below w.heap.size w w'

set_option maxRecDepth 100000 in
set_option maxHeartbeats 4000000 in
theorem comesBack_any (vals : List Value) (rows : List (List Int)) (n B j : Nat) (w : World) (hn : n ≤ 1000) (hNx : NextIn B vals rows n w) (hlen : ∀ r, r ∈ rows → r.length ≤ 100000) (hin : ∀ r, r ∈ rows → ∀ t, t ∈ r → ∃ k : Nat, t = k ∧ k < n) (hj : j < n) :
    Calls Tryz.prog 77 #[.slice (some ⟨B, 0, none⟩) n n, .int .i64 j] w (BackPost w rows j) := by
  have hmk := fun w' => make_bools n hn w'
  obtain ⟨RL, hRL⟩ : ∃ RL : List Bool, RL = List.replicate n false := ⟨_, rfl⟩
  have hRl : RL.length = n := by rw [hRL]; simp
  rw [← hRL] at hmk
  have e1 := Blk.new w 111 #[.slice (some ⟨B, 0, none⟩) n n]
  have e2 := Blk.new (w.alloc (.cells #[.slice (some ⟨B, 0, none⟩) n n] 111)) 4 (bools RL)
  have e3 := Blk.new ((w.alloc (.cells #[.slice (some ⟨B, 0, none⟩) n n] 111)).alloc (.cells (bools RL) 4)) 31 #[.slice (some ⟨w.heap.size + 1, 0, none⟩) n n]
  have e4 := Blk.new (((w.alloc (.cells #[.slice (some ⟨B, 0, none⟩) n n] 111)).alloc (.cells (bools RL) 4)).alloc (.cells #[.slice (some ⟨w.heap.size + 1, 0, none⟩) n n] 31)) 144 #[.func (.func 102) #[] #[.pointer (some ⟨w.heap.size, 0, none⟩), .pointer (some ⟨w.heap.size + 1 + 1, 0, none⟩), .pointer (some ⟨w.heap.size + 1 + 1 + 1, 0, none⟩)]]
  simp only [World.size_alloc] at e2 e3 e4
  obtain ⟨W1, hW1⟩ : ∃ W1, W1 = (((w.alloc (.cells #[.slice (some ⟨B, 0, none⟩) n n] 111)).alloc (.cells (bools RL) 4)).alloc (.cells #[.slice (some ⟨w.heap.size + 1, 0, none⟩) n n] 31)).alloc (.cells #[.func (.func 102) #[] #[.pointer (some ⟨w.heap.size, 0, none⟩), .pointer (some ⟨w.heap.size + 1 + 1, 0, none⟩), .pointer (some ⟨w.heap.size + 1 + 1 + 1, 0, none⟩)]] 144) := ⟨_, rfl⟩
  have hJ : VJ w w.heap.size rows n w.heap.size B (w.heap.size + 1 + 1) (w.heap.size + 1) (w.heap.size + 1 + 1 + 1) RL W1 := by
    rw [hW1]
    exact ⟨((e1.alloc _).alloc _).alloc _, e3.alloc _, (e2.alloc _).alloc _, e4, hRl, ((((Below.refl _ w).alloc (Nat.le_refl _) _).alloc (by simp) _).alloc (by simp; omega) _).alloc (by simp; omega) _, by omega⟩
  have HV := Lib.hid (visit_any w w.heap.size vals rows n w.heap.size B (w.heap.size + 1 + 1) (w.heap.size + 1) (w.heap.size + 1 + 1 + 1) hn hNx rfl hlen hin _ RL j W1 (Nat.le_refl _) hj hJ)
  have HRL := Lib.hid hRL
  have HW1 := Lib.hid hW1
  have HJ := Lib.hid hJ
  have z1 : (j : Int) < (n : Int) := by omega
  have z0 : (0 : Int) ≤ (j : Int) := by omega
  clear hNx hlen hin e1 e2 e3 e4 hW1 hRL hRl hJ
  go_enter Tryz.func77, Tryz.ntmps77
  go_upto_region 4 with (fail)
  rw [← HW1.out]
  have cv := HJ.out.bv.cell 0
  have lvv := HJ.out.bv.lt
  go_wp2_with fail
  refine HV.out.mono ?_
  rintro e w5 ⟨rfl, M', hJ5, hV5⟩
  have cy := hJ5.by_.cell 0
  have ly := hJ5.by_.lt
  have cm := hJ5.bm.cell j
  have lm := hJ5.bm.lt
  rw [bools_at M' j (by rw [hJ5.len]; omega)] at cm
  have HB5 := Lib.hid hJ5.low
  have HA : Hid (lv M' j = true ↔ Far (stepE rows) j j) := Lib.hid (by
    rw [HRL.out] at hV5
    rw [← hV5.all j]
    constructor
    · intro h; have := lv_true h; rwa [Int.toNat_natCast] at this
    · intro h; exact lv_some (by rwa [Int.toNat_natCast]))
  generalize lv M' j = v at *
  clear hJ5 hV5 HV HJ cv
  go_wp2
  go_ret
  exact ⟨v, rfl, HA.out, HB5.out⟩
end Go.Proofs.YtodnlcbnbkkanaaGreatDoor
end
section
namespace Go.Vals
open Go

section
variable {P : Program} {ops : Array Oper} {Q : Exit → Act → World → Prop} {md : Region.Mode}

def Turns (P : Program) (ops : Array Oper) (F : Array Value) (ds : List Deferred) (o : Oper) (w w' : World) : Prop :=
  noSel o = true ∧ Region.wanted o (yielded ops F) = true ∧ ∃ v, ((execOp (Act.eval ⟨F, ds⟩) o).run P w = .ok (.value v) w' ∨ (execOp (Act.eval ⟨F, ds⟩) o).run P w = .ok .skip w' ∧ v = undef) ∧ ∀ d, o.dst = some d → F[d]? = some v
def SpecAll (P : Program) (ops : Array Oper) (F : Array Value) (ds : List Deferred) (Ws : Nat → World) : Nat → List Nat → Prop
  | _, [] => True
  | k, i :: r => (∃ o, ops[i]? = some o ∧ Turns P ops F ds o (Ws k) (Ws (k + 1))) ∧ SpecAll P ops F ds Ws (k + 1) r
theorem SpecAll.get {F : Array Value} {ds : List Deferred} {Ws : Nat → World} : ∀ {l : List Nat} {k : Nat}, SpecAll P ops F ds Ws k l → ∀ (j i : Nat), l[j]? = some i → ∃ o, ops[i]? = some o ∧ Turns P ops F ds o (Ws (k + j)) (Ws (k + j + 1))
  | [], _, _, j, i, h => by simp at h
  | x :: l, k, hE, 0, i, h => by simp at h; subst h; exact hE.1
  | x :: l, k, hE, j + 1, i, h => by
    have := hE.2.get j i (by simpa using h)
    rw [show k + 1 + j = k + (j + 1) by omega] at this
    exact this
def EachS (P : Program) (ops : Array Oper) (F : Array Value) (S : World → Prop) (ds : List Deferred) (sp : List Nat) : Nat → List Oper → Prop
  | _, [] => True
  | k, o :: l => (sp.contains k = true ∨ ∀ a w, a.defers = ds → S w → Knows (Kn F [] fun _ _ _ => False) (o.looksAt ops) a w → Does P ops (fun w w' => w' = w) (Kn F [] fun _ _ _ => False) o a w) ∧ EachS P ops F S ds sp (k + 1) l
theorem EachS.get {F : Array Value} {S : World → Prop} {ds : List Deferred} {sp : List Nat} : ∀ {l : List Oper} {k : Nat}, EachS P ops F S ds sp k l → ∀ (j : Nat) (o : Oper), l[j]? = some o → sp.contains (k + j) = false →
    ∀ a w, a.defers = ds → S w → Knows (Kn F [] fun _ _ _ => False) (o.looksAt ops) a w → Does P ops (fun w w' => w' = w) (Kn F [] fun _ _ _ => False) o a w
  | [], _, _, j, o, h, _ => by simp at h
  | x :: l, k, hE, 0, o, h, hn => by
    simp at h; subst h
    rcases hE.1 with h1 | h1
    · rw [Nat.add_zero] at hn; rw [hn] at h1; cases h1
    · exact h1
  | x :: l, k, hE, j + 1, o, h, hn => hE.2.get j o (by simpa using h) (by rw [show k + 1 + j = k + (j + 1) by omega]; exact hn)
def chainSp (md : Region.Mode) (ops : Array Oper) (n : Nat) : List Nat → Bool
  | [] => false
  | [i] => i == n
  | i :: j :: r => decide (i < n) && Region.waitsFor md ops j i && chainSp md ops n (j :: r)
theorem chainSp_last {n : Nat} : ∀ {l : List Nat}, chainSp md ops n l = true → l[l.length - 1]? = some n
  | [], h => by cases h
  | [i], h => by simp [chainSp] at h; simp [h]
  | i :: j :: r, h => by
    simp only [chainSp, Bool.and_eq_true] at h
    have := chainSp_last h.2
    simpa using this
theorem chainSp_waits {n : Nat} : ∀ {l : List Nat}, chainSp md ops n l = true → ∀ (k i j : Nat), l[k]? = some i → l[k + 1]? = some j → Region.waitsFor md ops j i = true
  | [], h, _, _, _, _, _ => by cases h
  | [x], h, k, i, j, h1, h2 => by simp at h2
  | x :: y :: r, h, 0, i, j, h1, h2 => by
    simp at h1 h2; subst h1 h2
    simp only [chainSp, Bool.and_eq_true] at h
    exact h.1.2
  | x :: y :: r, h, k + 1, i, j, h1, h2 => by
    simp only [chainSp, Bool.and_eq_true] at h
    exact chainSp_waits h.2 k i j (by simpa using h1) (by simpa using h2)
theorem chainSp_low {n : Nat} : ∀ {l : List Nat}, chainSp md ops n l = true → ∀ (k i : Nat), l[k]? = some i → k + 1 < l.length → i < n
  | [], h, _, _, _, _ => by cases h
  | [x], h, k, i, h1, h2 => by simp at h2
  | x :: y :: r, h, 0, i, h1, h2 => by
    simp at h1; subst h1
    simp only [chainSp, Bool.and_eq_true, decide_eq_true_eq] at h
    exact h.1.1
  | x :: y :: r, h, k + 1, i, h1, h2 => by
    simp only [chainSp, Bool.and_eq_true] at h
    exact chainSp_low h.2 k i (by simpa using h1) (by simpa using h2)

theorem sp_inj {n : Nat} {l : List Nat} (hc : chainSp md ops n l = true) (hlt : ∀ (j : Nat) (o : Oper), ops[j]? = some o → ∀ e ∈ o.after, e.on < j) : ∀ (d k i j : Nat), l[k]? = some i → l[k + d + 1]? = some j → i < j := by
  intro d
  induction d with
  | zero =>
    intro k i j h1 h2
    obtain ⟨o, ho, e, he, _, hon⟩ := Region.waitsFor_spec (chainSp_waits hc k i j h1 h2)
    have := hlt j o ho e he
    omega
  | succ d ih =>
    intro k i j h1 h2
    have hk : k + d + 1 < l.length := by have := (List.getElem?_eq_some_iff.1 h2).1; omega
    have h3 := ih k i _ h1 (List.getElem?_eq_getElem hk)
    obtain ⟨o, ho, e, he, _, hon⟩ := Region.waitsFor_spec (chainSp_waits hc (k + d + 1) _ j (List.getElem?_eq_getElem hk) h2)
    have := hlt j o ho e he
    omega

theorem wp_region_chain {id : Nat} {a : Act} {w : World} (sp : List Nat) (n : Nat) (Ws : Nat → World) (vs : List Value) (F : Array Value)
    (hm : P.follows .mixedOrders = true) (hck : ck .any ops [] = true) (hb : below ops a.tmps.size = true)
    (hF : putL a.tmps (ops.toList.map (·.dst)) vs = F)
    (hsz : ops.size = n + 1) (hsink : Region.sinkB .any ops n = true) (hsp : chainSp .any ops n sp = true) (h0 : Ws 0 = w.drew)
    (hspec : SpecAll P ops F a.defers Ws 0 sp)
    (hall : EachS P ops F (fun W => ∃ k, k < sp.length ∧ W = Ws k) a.defers sp 0 ops.toList)
    (wE : World) (hE : Ws sp.length = wE) (hQ : Q .normal { a with tmps := F } wE) : (Code.region id ops true).wp P Q a w := by
  subst hE
  obtain ⟨hsel, hlt, hone, hlook⟩ := ck_spec hck
  have hFs : F.size = a.tmps.size := by rw [← hF, putL_size]
  have hin := below_spec hb
  have hch : Region.chainB .any ops n = true := by
    unfold Region.chainB
    rw [List.all_eq_true]
    intro t ht
    have := List.mem_range.1 ht
    simp only [Bool.or_eq_true, decide_eq_true_eq]
    left; omega
  have hlast := chainSp_last hsp
  have hpos : 0 < sp.length := by have := (List.getElem?_eq_some_iff.1 hlast).1; omega
  have key : ∀ (fuel : Nat) (listed : Array Bool) (b : Act) (W : World), listed.size = ops.size → left ops listed ≤ fuel → b.tmps.size = a.tmps.size → b.defers = a.defers →
      (∀ t < a.tmps.size, Settled ops listed t → b.tmps[t]? = F[t]?) →
      ((∃ s, s < sp.length ∧ W = Ws s ∧ HeadInv .any ops n listed ∧ ∀ k i, sp[k]? = some i → (listed.getD i true = true ↔ k < s)) ∨ (W = Ws sp.length ∧ ∀ j, j < ops.size → listed.getD j true = true)) →
      wpAny P .any ops Q fuel listed b W := by
    intro fuel
    have fin : ∀ (listed : Array Bool) (b : Act) (W : World), listed.size = ops.size → b.tmps.size = a.tmps.size → b.defers = a.defers →
        (∀ t < a.tmps.size, Settled ops listed t → b.tmps[t]? = F[t]?) →
        ((∃ s, s < sp.length ∧ W = Ws s ∧ HeadInv .any ops n listed ∧ ∀ k i, sp[k]? = some i → (listed.getD i true = true ↔ k < s)) ∨ (W = Ws sp.length ∧ ∀ j, j < ops.size → listed.getD j true = true)) →
        Region.ready .any ops listed = [] → Q .normal b W := by
      intro listed b W hls hbs hbd hk hst hr
      have hl := listed_all hlt hls hr
      have hW : W = Ws sp.length := by
        rcases hst with ⟨s, hs, rfl, inv, hiff⟩ | ⟨h, _⟩
        · exfalso
          have h1 : n < ops.size := by omega
          have h2 := hl n ops[n] (by simp [h1])
          have := (hiff (sp.length - 1) n hlast).1 h2
          omega
        · exact h
      have hT : b.tmps = F := by
        apply Array.ext (by rw [hbs, hFs])
        intro i h1 h2
        have := hk i (by omega) fun j o ho _ => hl j o ho
        simpa [h1, h2] using this
      obtain ⟨bt, bd⟩ := b
      dsimp only at hT hbd
      rw [hW, hT, hbd]
      exact hQ
    induction fuel with
    | zero =>
      intro listed b W hls hleft hbs hbd hk hst
      have hr : Region.ready .any ops listed = [] := by
        rw [List.eq_nil_iff_forall_not_mem]
        intro j hj
        obtain ⟨h0, o, ho, _⟩ := mem_ready.1 hj
        have hlt' : j < ops.size := (Array.getElem?_eq_some_iff.1 ho).1
        have : 0 < left ops listed := List.countP_pos_iff.2 ⟨j, by simpa using hlt', by simp [h0]⟩
        omega
      exact ⟨hr, fin listed b W hls hbs hbd hk hst hr⟩
    | succ fuel ih =>
      intro listed b W hls hleft hbs hbd hk hst
      refine ⟨fun hr => fin listed b W hls hbs hbd hk hst hr, fun i hi => ?_⟩
      obtain ⟨hun, o, ho, hdep⟩ := mem_ready.1 hi
      have hilt : i < ops.size := (Array.getElem?_eq_some_iff.1 ho).1
      rcases hst with ⟨s, hs, rfl, inv, hiff⟩ | ⟨_, hall'⟩
      rotate_left
      · rw [hall' i hilt] at hun; cases hun
      have hlook' : ∀ t ∈ o.looksAt ops, b.tmps[t]? = F[t]? := by
        intro t ht
        refine hk t ((hin i o ho).2 t ht) fun j x hx hxd => ?_
        obtain ⟨e, he, hb', rfl⟩ := hlook i o j x t ho hx hxd ht
        have h1 := hdep e he hb'
        have hj : e.on < ops.size := (Array.getElem?_eq_some_iff.1 hx).1
        have hj' : e.on < listed.size := by omega
        simpa [hj'] using h1
      have hknow : Knows (Kn F [] fun _ _ _ => False) (o.looksAt ops) b (Ws s) := by
        intro t ht
        have ht' := (hin i o ho).2 t ht
        refine ⟨b.tmps[t]'(by rw [hbs]; exact ht'), Array.getElem?_eq_getElem _, .inr ⟨by simp, ?_⟩⟩
        rw [← hlook' t ht]; exact Array.getElem?_eq_getElem _
      have hleft' : left ops (listed.setIfInBounds i true) ≤ fuel := by
        have : left ops (listed.setIfInBounds i true) < left ops listed := by
          refine countP_lt (x := i) (fun j _ hj => ?_) (by simpa using hilt) (by simp [hun]) (by simp [hls, hilt])
          by_cases hij : i = j
          · subst hij; simp [hls, hilt] at hj
          · rw [getD_set_ne true hij] at hj; exact hj
        omega
      have hslots : ∀ u, (∀ d, o.dst = some d → F[d]? = some u) → ∀ t < a.tmps.size, Settled ops (listed.setIfInBounds i true) t → (b.put o.dst u).tmps[t]? = F[t]? := by
        intro u hu t ht hset
        by_cases hdt : o.dst = some t
        · rw [hu t hdt]
          have : t < b.tmps.size := by omega
          simp [Act.put, hdt, this]
        · have hset' : Settled ops listed t := by
            intro j x hx hxd
            by_cases hij : i = j
            · subst hij; rw [ho] at hx; cases hx; exact absurd hxd hdt
            · rw [← getD_set_ne true hij]; exact hset j x hx hxd
          rw [← hk t ht hset']
          cases hod : o.dst with
          | none => simp [Act.put]
          | some d =>
            have : d ≠ t := fun e => hdt (by rw [hod, e])
            simp only [Act.put]
            rw [Array.getElem?_setIfInBounds_ne this]
      have hsize : ∀ u, (b.put o.dst u).tmps.size = a.tmps.size := fun u => by unfold Act.put; split <;> simp [hbs]
      have hdef : ∀ u, (b.put o.dst u).defers = a.defers := fun u => by unfold Act.put; split <;> exact hbd
      cases hc : sp.contains i with
      | false =>
        have hne : i ≠ n := by
          intro e; subst e
          have : i ∈ sp := List.mem_of_getElem? hlast
          rw [List.contains_iff_mem.2 this] at hc; cases hc
        have hdo := hall.get i o (by simpa using ho) (by simpa using hc) b (Ws s) hbd ⟨s, hs, rfl⟩ hknow
        refine hdo.wpOp (N := fun w w' => w' = w) ho rfl fun u w' hw' hp => ?_
        subst hw'
        refine ih _ _ _ (by simpa using hls) hleft' (hsize u) (hdef u) (hslots u fun d hd => ?_) (.inl ⟨s, hs, rfl, inv.set hi (by omega), fun k j hj => ?_⟩)
        · rcases hp d hd with ⟨h, _⟩ | ⟨_, h⟩
          · cases h
          · exact h
        · have hji : i ≠ j := fun e => by
            subst e
            rw [List.contains_iff_mem.2 (List.mem_of_getElem? hj)] at hc; cases hc
          rw [getD_set_ne true hji]
          exact hiff k j hj
      | true =>
        obtain ⟨k, hki⟩ := List.mem_iff_getElem?.1 (List.contains_iff_mem.1 hc)
        have hk1 : ¬ k < s := fun h => by rw [(hiff k i hki).2 h] at hun; cases hun
        have hk2 : k ≤ s := by
          cases k with
          | zero => omega
          | succ k =>
            have hkl : k < sp.length := by have := (List.getElem?_eq_some_iff.1 hki).1; omega
            have hkk : sp[k]? = some sp[k] := List.getElem?_eq_getElem hkl
            obtain ⟨o', ho', e, he, hb', hon⟩ := Region.waitsFor_spec (chainSp_waits hsp k _ i hkk hki)
            rw [ho] at ho'
            cases ho'
            have h1 := hdep e he hb'
            rw [hon] at h1
            have h2 : listed.getD sp[k] true = true := by
              have hlt2 : sp[k] < listed.size := by
                have := hlt i o ho e he
                omega
              simp [hlt2] at h1 ⊢; exact h1
            have := (hiff k _ hkk).1 h2
            omega
        obtain rfl : k = s := by omega
        obtain ⟨o', ho', hns, hwant, v, hrun, hv⟩ := hspec.get k i hki
        rw [ho] at ho'
        cases ho'
        rw [Nat.zero_add] at hrun
        have he : execOp b.eval o = execOp (Act.eval ⟨F, a.defers⟩) o := by
          refine execOp_congr o (noSel_spec hns) fun x hx => ?_
          cases x with
          | tmp t =>
            have ht : t ∈ o.looksAt ops := List.mem_append_left _ (List.mem_filterMap.2 ⟨.tmp t, by simpa using hx, rfl⟩)
            have := hlook' t ht
            simp [Act.eval, this]
          | _ => rfl
        have hw : Region.wanted o (yielded ops b.tmps) = true := by
          rw [← hwant]
          unfold Region.wanted
          cases hg : o.guard with
          | none => rfl
          | some gw =>
            obtain ⟨g, want⟩ := gw
            have hy : yielded ops b.tmps g = yielded ops F g := by
              unfold yielded
              cases ht : (ops[g]?).bind (·.dst) with
              | none => rfl
              | some t =>
                have := hlook' t (by simp [Oper.looksAt, hg, ht])
                simp [this]
            simp only [hy]
        have hnext : wpAny P .any ops Q fuel (listed.setIfInBounds i true) (b.put o.dst v) (Ws (k + 1)) := by
          refine ih _ _ _ (by simpa using hls) hleft' (hsize v) (hdef v) (hslots v hv) ?_
          by_cases hend : k + 1 < sp.length
          · have hilow : i < n := chainSp_low hsp k i hki hend
            refine .inl ⟨k + 1, hend, rfl, inv.set hi hilow, fun k' j hj => ?_⟩
            by_cases hji : i = j
            · subst hji
              have : k' = k := by
                rcases Nat.lt_trichotomy k' k with h | h | h
                · have := sp_inj hsp hlt (k - k' - 1) k' i i hj (by rw [show k' + (k - k' - 1) + 1 = k by omega]; exact hki)
                  omega
                · exact h
                · have := sp_inj hsp hlt (k' - k - 1) k i i hki (by rw [show k + (k' - k - 1) + 1 = k' by omega]; exact hj)
                  omega
              subst this
              have : (listed.setIfInBounds i true).getD i true = true := by simp [hls, hilt]
              simp [this]
            · rw [getD_set_ne true hji, hiff k' j hj]
              have : k' ≠ k := fun e => by subst e; rw [hki] at hj; cases hj; exact hji rfl
              omega
          · have hkl : k = sp.length - 1 := by have := (List.getElem?_eq_some_iff.1 hki).1; omega
            have hin' : i = n := by rw [hkl, hlast] at hki; cases hki; rfl
            refine .inr ⟨by rw [show k + 1 = sp.length by omega], fun j hj => ?_⟩
            subst hin'
            by_cases hji : i = j
            · subst hji; simp [hls, hilt]
            · rw [getD_set_ne true hji]
              cases hlj : listed.getD j true with
              | true => rfl
              | false => exact absurd hi (tail_waits hsink hch hilt inv _ j rfl (by omega) hlj i (Nat.le_refl _))
        unfold wpOp
        simp only [ho, hw, if_true]
        refine .inl ?_
        unfold Oper.wp
        rw [he]
        rcases hrun with hrun | ⟨hrun, rfl⟩
        · rw [hrun, Oper.upon_value]; exact hnext
        · rw [hrun, Oper.upon_skip]; exact hnext
  refine wp_region_any hm (key ops.size _ a _ (by simp) left_start rfl rfl (fun t ht hset => ?_) (.inl ⟨0, hpos, ?_, ⟨by simp, fun j oj _ hl => (by rw [getD_replicate_false] at hl; cases hl), fun t _ ht => getD_in (by simpa using ht) (getD_replicate_false _ _)⟩, fun k i hki => ?_⟩))
  · have hnd : some t ∉ ops.toList.map (·.dst) := by
      intro hm
      obtain ⟨o, ho, hod⟩ := List.mem_map.1 hm
      obtain ⟨j, hj⟩ := List.mem_iff_getElem?.1 ho
      have hj' : ops[j]? = some o := by simpa using hj
      have h5 := hset j o hj' hod
      have hlt : j < ops.size := (Array.getElem?_eq_some_iff.1 hj').1
      simp [hlt] at h5
    rw [← hF, putL_off _ _ _ hnd]
  · rw [h0]; rfl
  · have hil : i < ops.size := by
      by_cases e : k + 1 < sp.length
      · have := chainSp_low hsp k i hki e; omega
      · have hkl : k = sp.length - 1 := by have := (List.getElem?_eq_some_iff.1 hki).1; omega
        rw [hkl, hlast] at hki; cases hki; omega
    simp [hil]
end
end Go.Vals
end
section
namespace Go.Vals
open Go
theorem EachS.one {P : Program} {ops : Array Oper} {F : Array Value} {S : World → Prop} {ds : List Deferred} {sp : List Nat} {k : Nat} {o : Oper} {l : List Oper} (h : Each P ops (fun w w' => w' = w) (Kn F [] fun _ _ _ => False) S ds [o]) (hr : EachS P ops F S ds sp (k + 1) l) : EachS P ops F S ds sp k (o :: l) := ⟨.inr h.1, hr⟩
theorem EachS.skip {P : Program} {ops : Array Oper} {F : Array Value} {S : World → Prop} {ds : List Deferred} {sp : List Nat} {k : Nat} {o : Oper} {l : List Oper} (h : sp.contains k = true) (hr : EachS P ops F S ds sp (k + 1) l) : EachS P ops F S ds sp k (o :: l) := ⟨.inl h, hr⟩
def four (w0 w1 w2 w3 : World) : Nat → World
  | 0 => w0
  | 1 => w1
  | 2 => w2
  | _ => w3
theorem four_lt {w0 w1 w2 w3 W : World} (h : ∃ k, k < 3 ∧ W = four w0 w1 w2 w3 k) : W = w0 ∨ W = w1 ∨ W = w2 := by
  obtain ⟨k, hk, rfl⟩ := h
  rcases k with _ | _ | _ | k
  · exact .inl rfl
  · exact .inr (.inl rfl)
  · exact .inr (.inr rfl)
  · omega
theorem Turns.val {P : Program} {ops : Array Oper} {F : Array Value} {ds : List Deferred} {o : Oper} {w w' : World} {d : Tmp} (v : Value) (hs : noSel o = true) (hw : Region.wanted o (yielded ops F) = true) (hd : o.dst = some d) (hv : F[d]? = some v)
    (h : (execOp (Act.eval ⟨F, ds⟩) o).run P w = .ok (.value v) w') : Turns P ops F ds o w w' := ⟨hs, hw, v, .inl h, fun d' hd' => by rw [hd] at hd'; cases hd'; exact hv⟩
theorem Turns.skip {P : Program} {ops : Array Oper} {F : Array Value} {ds : List Deferred} {o : Oper} {w w' : World} (hs : noSel o = true) (hw : Region.wanted o (yielded ops F) = true) (hd : o.dst = none)
    (h : (execOp (Act.eval ⟨F, ds⟩) o).run P w = .ok .skip w') : Turns P ops F ds o w w' := ⟨hs, hw, undef, .inr ⟨h, rfl⟩, fun d' hd' => by rw [hd] at hd'; cases hd'⟩
end Go.Vals
namespace Go.Proofs.YtodnlcbnbkkanaaGreatDoor
open Go Go.RowKit Go.Vals

section
variable {w : World} {o : Oper} {ρ : Operand → Value}
theorem ap_of {s x : Operand} {t : TypeId} {v u v' : Value} {w' : World} (ho : o.op = .call { callee := .builtin .append, args := #[s, x], argTypes := #[t, t] }) (hs : ρ s = v) (hx : ρ x = u)
    (hr : (Builtin.append_ #[t, t] o.type #[v, u]).run Tryz.prog w = .ok v' w') : (execOp ρ o).run Tryz.prog w = .ok (.value v') w' := by
  unfold execOp
  simp only [ho, resolve, invoke, builtin, Sem.run_bind, Sem.run_pure, Result.andThen_ok, List.map_toArray, List.map_cons, List.map_nil, hs, hx, hr]
end
end Go.Proofs.YtodnlcbnbkkanaaGreatDoor
end
section
namespace Go.Proofs.YtodnlcbnbkkanaaGreatDoor
open Go Go.RowKit Go.Maps

theorem Tryz.info48 : (Tryz.prog.info? 48).map (fun i => (i.zero, i.size, i.bytes)) = some (some (.slice none 0 0), 1, 24) := by kernel_rfl
theorem make_rows (n : Nat) (hn : n ≤ 1000) (w : World) : (Instr.makeSlice 111 (.int .i64 (n : Int)) (.int .i64 (n : Int))).run Tryz.prog w = .ok (.slice (some ⟨w.heap.size, 0, none⟩) n n) (w.alloc (.cells (List.replicate n (.slice none 0 0)).toArray 48)) := by
  obtain ⟨i0, hi, hz0, hz1, hz2⟩ := info_parts Tryz.info48
  have e : (List.replicate n (Value.slice none 0 0)).toArray = madeCells #[.slice none 0 0] n := by
    unfold madeCells
    apply Array.ext'
    simp [Nat.mod_one, List.map_const']
  rw [e]
  exact run_make_row 111 48 i0 (.slice none 0 0) Tryz.underlying111 hi hz0 hz1 rfl .i64 .i64 n (by rw [hz2]; omega) (by omega) w

structure NX (w : World) (N B n : Nat) (vals : List Value) (rows : List (List Int)) (W : World) : Prop where
  blk : Blk W B 48 vals.toArray
  vlen : vals.length = n
  rlen : rows.length = n
  own : ∀ (k : Nat) (v : Value) (r : List Int), vals[k]? = some v → rows[k]? = some r → W.ownsRow N 3 1 v r.length (cellsL intC r)
  apart : ∀ (i j : Nat) (u v : Value) (g : Nat), vals[i]? = some u → vals[j]? = some v → u.ownBlock = some g → v.ownBlock = some g → i = j
  low : Below w.heap.size w W
  hx : w.heap.size ≤ B ∧ B < N ∧ N ≤ W.heap.size
theorem own_lt {W : World} {b e s n : Nat} {v : Value} {xs : List Value} (h : W.ownsRow b e s v n xs) {g : Nat} (hg : v.ownBlock = some g) : b ≤ g ∧ g < W.heap.size := by
  rcases h.2 with ⟨rfl, _⟩ | ⟨g', cap, cur, rfl, h1, h2, _⟩
  · cases hg
  · have : g' = g := by simpa [Value.ownBlock] using hg
    subst this
    exact ⟨h1, (Array.getElem?_eq_some_iff.1 h2).1⟩
theorem own_keep {W V : World} {b e s n : Nat} {v : Value} {xs : List Value} (h : W.ownsRow b e s v n xs) {q : Option Nat} (hg : W.grownBy V q) (hne : ∀ g, v.ownBlock = some g → some g ≠ q) : V.ownsRow b e s v n xs := by
  refine ⟨h.1, ?_⟩
  rcases h.2 with h1 | ⟨g, cap, cur, rfl, h1, h2, h3⟩
  · exact .inl h1
  · exact .inr ⟨g, cap, cur, rfl, h1, (hg.block g (Array.getElem?_eq_some_iff.1 h2).1 (hne g rfl)).trans h2, h3⟩
theorem NX.below {w : World} {N B n : Nat} {vals : List Value} {rows : List (List Int)} {W V : World} (h : NX w N B n vals rows W) (hg : W.grownBy V none) : NX w N B n vals rows V :=
  ⟨h.blk.kept hg (by simp), h.vlen, h.rlen, fun k v r hv hr => own_keep (h.own k v r hv hr) hg (fun g _ => by simp), h.apart, h.low.grown hg h.low.size (fun j e => by cases e), by have := h.hx; have := hg.size; omega⟩
theorem NX.put {w : World} {N B n : Nat} {vals : List Value} {rows : List (List Int)} {W V : World} (h : NX w N B n vals rows W) {k : Nat} {v v' : Value} {r : List Int} {t : Int} (hv : vals[k]? = some v) (hr : rows[k]? = some r)
    (ho : V.ownsRow N 3 1 v' (r.length + 1) (cellsL intC (r ++ [t]))) (hg : W.grownBy V v.ownBlock) (hb : ∀ g, v'.ownBlock = some g → v.ownBlock = some g ∨ W.heap.size ≤ g) :
    NX w N B n (vals.set k v') (rows.set k (r ++ [t])) (V.setCell ⟨B, k, none⟩ v') := by
  have hx := h.hx
  have hkv := (List.getElem?_eq_some_iff.1 hv).1
  have hkr := (List.getElem?_eq_some_iff.1 hr).1
  have hov := h.own k v r hv hr
  have hgl : ∀ g, v.ownBlock = some g → N ≤ g ∧ g < W.heap.size := fun g hg => own_lt hov hg
  have hBk : Blk V B 48 vals.toArray := h.blk.kept hg (fun e => by have := hgl B e.symm; omega)
  refine ⟨by have := hBk.set k v'; rwa [List.setIfInBounds_toArray] at this, by rw [List.length_set]; exact h.vlen, by rw [List.length_set]; exact h.rlen, fun i u s hu hs => ?_, fun i j u x g hu hx' h1 h2 => ?_, ?_, ?_⟩
  · have hput : ∀ {e s n : Nat} {v : Value} {xs : List Value}, V.ownsRow N e s v n xs → (V.setCell ⟨B, k, none⟩ v').ownsRow N e s v n xs := fun h => own_put h hx.2.1 _
    refine hput ?_
    rw [List.getElem?_set] at hu hs
    by_cases e : k = i
    · subst e
      rw [if_pos rfl, if_pos hkv] at hu
      rw [if_pos rfl, if_pos hkr] at hs
      cases hu; cases hs
      rw [List.length_append]; exact ho
    · rw [if_neg e] at hu hs
      exact own_keep (h.own i u s hu hs) hg fun g h1 h2 => e (h.apart k i v u g hv hu h2.symm h1)
  · have old : ∀ (i : Nat) (u : Value) (g : Nat), i ≠ k → vals[i]? = some u → u.ownBlock = some g → v'.ownBlock = some g → False := fun i u g hne hu h1 h2 => by
      rcases hb g h2 with h3 | h3
      · exact hne (h.apart i k u v g hu hv h1 h3)
      · obtain ⟨s, hs⟩ : ∃ s, rows[i]? = some s := ⟨_, List.getElem?_eq_getElem (by rw [h.rlen, ← h.vlen]; exact (List.getElem?_eq_some_iff.1 hu).1)⟩
        have := own_lt (h.own i u s hu hs) h1
        omega
    rw [List.getElem?_set] at hu hx'
    by_cases e1 : k = i
    · by_cases e2 : k = j
      · omega
      · rw [if_pos e1, if_pos hkv] at hu
        rw [if_neg e2] at hx'
        cases hu
        exact (old j x g (fun e => e2 e.symm) hx' h2 h1).elim
    · rw [if_neg e1] at hu
      by_cases e2 : k = j
      · rw [if_pos e2, if_pos hkv] at hx'
        cases hx'
        exact (old i u g (fun e => e1 e.symm) hu h1 h2).elim
      · rw [if_neg e2] at hx'
        exact h.apart i j u x g hu hx' h1 h2
  · exact (h.low.grown hg h.low.size fun j e => Nat.le_trans (by omega) (hgl j e).1).setCell (p := ⟨B, k, none⟩) hx.1 _
  · rw [World.size_setCell]; have := hg.size; omega
theorem NX.next {w : World} {N B n : Nat} {vals : List Value} {rows : List (List Int)} {W : World} (h : NX w N B n vals rows W) : NextIn B vals rows n W :=
  ⟨h.blk, h.vlen, h.rlen, fun k v r hv hr => by
    obtain ⟨a, c, h1, h2⟩ := own_row (G := NoG) (cs := intC) (fun _ => rfl) (h.own k v r hv hr) (fun _ _ => trivial)
    exact ⟨a, c, h1, h2⟩⟩
end Go.Proofs.YtodnlcbnbkkanaaGreatDoor
end
section
namespace Go.Proofs.YtodnlcbnbkkanaaGreatDoor
open Go Go.RowKit Go.Maps

def LeadE (g : GramM) (M L : List Bool) (k t : Nat) : Prop := LeadU g M (livL g L) (livL g L).length 0 ((k : Int), (t : Int))
def CircP (g : GramM) (R : List Bool) : Prop := R.length = g.sorts.length ∧ ∃ M L, NullP g M ∧ Live g L ∧ ∀ k : Nat, k < g.sorts.length → (R[k]? = some true ↔ Far (LeadE g M L) k k)
structure CR (w : World) (N B n nn b r : Nat) (K L : Int × Int → Prop) (cnt : Nat) (vals : List Value) (rows : List (List Int)) (W : World) : Prop where
  rg : RangeL W b r nn K L cnt
  nx : NX w N B n vals rows W
  lt : b < N ∧ r < N ∧ b ≠ B ∧ r ≠ B
  mem : ∀ (k : Nat) (t : Int), (∃ rr, rows[k]? = some rr ∧ t ∈ rr) ↔ (K ((k : Int), t) ∧ ¬ L ((k : Int), t))
  len : ∀ rr, rr ∈ rows → rr.length + cnt ≤ nn
  sub : ∀ p, L p → K p

theorem bools_setv (L : List Bool) (i : Nat) (b : Bool) : (bools L).setIfInBounds i (.bool b) = bools (L.set i b) := by
  unfold bools
  rw [List.setIfInBounds_toArray, List.map_set]
open Go.Vals
section
variable {w : World} {o : Oper} {ρ : Operand → Value}
theorem ix111 {x y : Operand} {g f n c k q : Nat} (ho : o.op = .indexAddr 111 x y) (hx : ρ x = .slice (some ⟨g, f, none⟩) n c) (hy : ρ y = .int .i64 (k : Int)) (hk : k < n) (hq : f + k = q) : (execOp ρ o).run Tryz.prog w = .ok (.value (.pointer (some ⟨g, q, none⟩))) w := by
  subst hq
  unfold execOp; rw [ho]; simp only [hx, hy]
  have h0 : (0 : Int) ≤ k := by omega
  have h1 : (k : Int) < n := by omega
  go_simp
theorem fa115_0 {x : Operand} {g m : Nat} (ho : o.op = .fieldAddr 115 x 0) (hx : ρ x = .pointer (some ⟨g, m, none⟩)) : (execOp ρ o).run Tryz.prog w = .ok (.value (.pointer (some ⟨g, m, none⟩))) w := by
  unfold execOp; rw [ho]; simp only [hx]
  go_simp
theorem fa115_1 {x : Operand} {g m : Nat} (ho : o.op = .fieldAddr 115 x 1) (hx : ρ x = .pointer (some ⟨g, m, none⟩)) : (execOp ρ o).run Tryz.prog w = .ok (.value (.pointer (some ⟨g, m + 1, none⟩))) w := by
  unfold execOp; rw [ho]; simp only [hx]
  go_simp
theorem bs48 {x : Operand} {a : Int} (ho : o.op = .buildSlice 48 1 #[(0, x)]) (hx : ρ x = .int .i64 a) : (execOp ρ o).run Tryz.prog w = .ok (.value (.slice (some ⟨w.heap.size, 0, none⟩) 1 1)) (w.alloc (.cells #[.int .i64 a] 3)) := by
  unfold execOp; rw [ho]; simp only [List.map_toArray, List.map_cons, List.map_nil, hx]
  go_simp
theorem st48 {x y : Operand} {b i n c : Nat} {u : Value} {q : Option Addr} (ho : o.op = .store 48 x y) (hx : ρ x = .pointer (some ⟨b, i, none⟩)) (hy : ρ y = .slice q n c) (hc : w.cell? ⟨b, i, none⟩ = some u) (hf : w.frozen? ⟨b, i, none⟩ = false) (hl : b < w.heap.size) : (execOp ρ o).run Tryz.prog w = .ok .skip (w.setCell ⟨b, i, none⟩ (.slice q n c)) := by
  unfold execOp; rw [ho]; simp only [hx, hy]
  go_simp
end

set_option maxRecDepth 100000 in
set_option maxHeartbeats 8000000 in
theorem circular_any (g : GramM) (hm : MayB g) (hf : Fit g) (w : World) (hg : GIn w g) : Calls Tryz.prog 49 #[gramV g] w (MarksPost w (CircP g)) := by
  obtain ⟨i3, ti3, tz3, ts3, tb3⟩ := info_parts Tryz.info3
  have hmk := fun w' => make_bools g.sorts.length hm.sorts2 w'
  have hmr := fun w' => make_rows g.sorts.length hm.sorts2 w'
  obtain ⟨RL, hRL⟩ : ∃ RL : List Bool, RL = List.replicate g.sorts.length false := ⟨_, rfl⟩
  obtain ⟨VL, hVL⟩ : ∃ VL : List Value, VL = List.replicate g.sorts.length (.slice none 0 0) := ⟨_, rfl⟩
  rw [← hRL] at hmk
  rw [← hVL] at hmr
  obtain ⟨W1, hW1⟩ : ∃ W1, W1 = (w.alloc (.cells (gramC g) 27)).alloc (.cells VL.toArray 48) := ⟨_, rfl⟩
  have k0 : Blk W1 w.heap.size 27 (gramC g) := by rw [hW1]; exact (Blk.new w 27 (gramC g)).alloc _
  have k1 : Blk W1 (w.heap.size + 1) 48 VL.toArray := by rw [hW1]; have := Blk.new (w.alloc (.cells (gramC g) 27)) 48 VL.toArray; rwa [World.size_alloc] at this
  have hs1 : W1.heap.size = w.heap.size + 2 := by rw [hW1]; simp
  have hB1 : Below w.heap.size w W1 := by rw [hW1]; exact ((Below.refl _ w).alloc (Nat.le_refl _) _).alloc (by simp) _
  have HLd := Lib.hid (leads_any g hm hf W1 (hg.below hB1))
  have HMB := Lib.hid hm
  have HK0 := Lib.hid k0
  have HK1 := Lib.hid k1
  have HB1 := Lib.hid hB1
  have Hs1 := Lib.hid hs1
  have HW1 := Lib.hid hW1
  have HRL := Lib.hid hRL
  have HVL := Lib.hid hVL
  obtain ⟨n, hn⟩ : ∃ n, n = g.sorts.length := ⟨_, rfl⟩
  have Hn := Lib.hid hn
  have hn2 := hm.sorts2
  clear hm hf hg k0 k1 hs1 hB1 hW1 hRL hVL
  unfold gramV gramC at *
  rw [← hn] at hn2 hmk hmr HLd HK0 HW1 ⊢
  clear hn
  go_enter Tryz.func49, Tryz.ntmps49
  go_upto_region 2 with (fail)
  rw [← HW1.out]
  have c0 := HK0.out.cell 0
  have c1 := HK0.out.cell 1
  have c2 := HK0.out.cell 2
  have c3 := HK0.out.cell 3
  have c4 := HK0.out.cell 4
  have l0 := HK0.out.lt
  go_wp2_with fail
  refine HLd.out.mono ?_
  rintro e w3 ⟨b, nn, M, L, hM, hL, rfl, hbl, hmp, hnn, hB3⟩
  have hB3w : Below w.heap.size w w3 := HB1.out.trans (hB3.mono HB1.out.size)
  have HK03 := Lib.hid (HK0.out.below hB3 HK0.out.lt)
  have HK13 := Lib.hid (HK1.out.below hB3 HK1.out.lt)
  have HM := Lib.hid hM
  have HL := Lib.hid hL
  have hs3 := hB3.size
  have hbN := hmp.lt
  have HBw := Lib.hid hB3w
  have HKK : Hid (∀ p, LeadU g M (livL g L) (livL g L).length 0 p → ∃ k t : Nat, p = ((k : Int), (t : Int)) ∧ k < n ∧ t < n) := Lib.hid fun p ⟨j', i', x, h1, _, s, h2, h3, _, h4⟩ => by
    have hx := (livL_mem.1 (List.mem_of_getElem? h1)).1
    obtain ⟨k, hk, hkn⟩ := HMB.out.left x hx
    obtain ⟨t, ht, htn⟩ := HMB.out.sym x hx s (List.mem_of_getElem? h2) h3
    exact ⟨k, t, by rw [h4, hk, ht], by rw [Hn.out]; exact hkn, by rw [Hn.out]; exact htn⟩
  have HCE : Hid (∀ R : List Bool, R.length = n → (∀ k : Nat, k < n → (R[k]? = some true ↔ Far (LeadE g M L) k k)) → CircP g R) := Lib.hid fun R h1 h2 => ⟨h1.trans Hn.out, M, L, HM.out, HL.out, fun k hk => h2 k (by rw [Hn.out]; exact hk)⟩
  obtain ⟨K, hK⟩ : ∃ K, K = LeadU g M (livL g L) (livL g L).length 0 := ⟨_, rfl⟩
  have HKE : Hid (∀ k t : Nat, LeadE g M L k t ↔ K ((k : Int), (t : Int))) := Lib.hid fun k t => by rw [hK]; exact Iff.rfl
  rw [← hK] at hmp HKK
  have hbs : w.heap.size + 2 ≤ b := by have := Hs1.out; omega
  clear hM hL hB3 hB3w hK HLd HB1 HMB c0 c1 c2 c3 c4 l0
  go_wp2_with (first
    | (at_range; refine wpList_rangeL _ rfl _ rfl b nn K rfl hmp ?_; intro w4 cnt4 hrg4 hc4 hg4 hs4)
    | go_in)
  have hB4 : Below w.heap.size w w4 := HBw.out.grown hg4 HBw.out.size (fun j e => by cases e)
  have hnil : ∀ k v, VL[k]? = some v → v = (Value.slice none 0 0) := fun k v hv => by
    rw [HVL.out, List.getElem?_replicate] at hv
    split at hv <;> simp at hv
    exact hv.symm
  have hNX : NX w w4.heap.size (w.heap.size + 1) n VL (List.replicate n []) w4 := by
    refine ⟨HK13.out.kept hg4 (by simp), by rw [HVL.out, List.length_replicate, Hn.out], by simp, fun k v r hv hr => ?_, fun i j u v g hu hv h1 _ => ?_, hB4, by omega, by omega, Nat.le_refl _⟩
    · rw [hnil k v hv]
      rw [List.getElem?_replicate] at hr
      split at hr <;> simp at hr
      subst hr
      exact ⟨rfl, .inl ⟨rfl, rfl⟩⟩
    · rw [hnil i u hu] at h1; cases h1
  have HCR : Hid (CR w w4.heap.size (w.heap.size + 1) n nn b w3.heap.size K K cnt4 VL (List.replicate n []) w4) := Lib.hid ⟨hrg4, hNX, by omega, fun k t => by
    constructor
    · rintro ⟨rr, h1, h2⟩
      rw [List.getElem?_replicate] at h1
      split at h1 <;> simp at h1
      subst h1; cases h2
    · rintro ⟨h1, h2⟩
      exact absurd h1 h2, fun rr h => by rw [List.eq_of_mem_replicate h]; simpa using hc4, fun p h => h⟩
  have HG4 := Lib.hid (HK03.out.kept hg4 (by simp))
  obtain ⟨N, hN⟩ : ∃ N, N = w4.heap.size := ⟨_, rfl⟩
  obtain ⟨r, hr⟩ : ∃ r, r = w3.heap.size := ⟨_, rfl⟩
  rw [← hN, ← hr] at HCR
  rw [← hr]
  have hlt1 : b < r := by omega
  clear hrg4 hc4 hg4 hB4 hnil hNX HK03 HK13 hN hr hs4 hmp HBw hbN hs3
  go_frame
  go_loopw [14] (fun _ wr => ∃ (Lf : Int × Int → Prop) (cnt : Nat) (vals : List Value) (rows : List (List Int)), Hid (CR w N (w.heap.size + 1) n nn b r K Lf cnt vals rows wr) ∧ Hid (Blk wr w.heap.size 27 #[.slice g.sa n g.sc, .slice g.pa g.prods.length g.pc, .int .i64 g.start, .slice g.fa g.forbid.length g.fc, .slice g.wa g.follow.length g.wc]))
    (fun _ wr => wr.rangeLeft b r)
  case atStart => exact ⟨K, cnt4, VL, List.replicate n [], HCR, HG4⟩
  case round =>
    clear HCR HG4
    obtain ⟨Lf, cnt, vals, rows, KC, KG⟩ := hrel
    go_wp2_with (first
      | (at_next; refine wpList_nextL _ rfl _ rfl b r nn cnt K Lf rfl KC.out.rg ?_ ?_)
      | go_in)
    · intro hc0 hl0
      have HNx := Lib.hid KC.out.nx.next
      have HBl := Lib.hid KC.out.nx.low
      have hbB := KC.out.nx.blk.lt
      have HSE : Hid (stepE rows = LeadE g M L) := Lib.hid (funext fun k => funext fun t => propext (by
        rw [HKE.out k t]
        unfold stepE
        rw [KC.out.mem k t]
        exact ⟨fun h => h.1, fun h => ⟨h, hl0 _ _⟩⟩))
      have HLen : Hid (∀ r, r ∈ rows → r.length ≤ 100000) := Lib.hid fun r hr => by have := KC.out.len r hr; omega
      have HIn : Hid (∀ r, r ∈ rows → ∀ t, t ∈ r → ∃ k : Nat, t = k ∧ k < n) := Lib.hid fun r hr t ht => by
        obtain ⟨k, hk⟩ := List.mem_iff_getElem?.1 hr
        obtain ⟨h1, _⟩ := (KC.out.mem k t).1 ⟨r, hk, ht⟩
        obtain ⟨k', t', e, _, h2⟩ := HKK.out _ h1
        exact ⟨t', by simpa using congrArg Prod.snd e, h2⟩
      have HRl : Hid (RL.length = n) := Lib.hid (by rw [HRL.out, List.length_replicate, Hn.out])
      have HBlk := Lib.hid KG.out
      have c0 := KG.out.cell 0
      have l0 := KG.out.lt
      clear KC hl0 hc0 KG
      go_upto_region 7 with (fail)
      have HJ0 : Hid (Below w.heap.size w (wr.alloc (.cells (bools RL) 4)) ∧ Below wr.heap.size wr (wr.alloc (.cells (bools RL) 4)) ∧ Blk (wr.alloc (.cells (bools RL) 4)) wr.heap.size 4 (bools RL) ∧ RL.length = n ∧ ∀ k : Nat, k < 0 → (RL[k]? = some true ↔ Far (stepE rows) k k)) :=
        Lib.hid ⟨HBl.out.alloc HBl.out.size _, (Below.refl _ _).alloc (Nat.le_refl _) _, Blk.new wr 4 _, HRl.out, fun k hk => by omega⟩
      have hBo : w.heap.size ≤ wr.heap.size := HBl.out.size
      obtain ⟨Bo, hBoe⟩ : ∃ Bo, Bo = wr.heap.size := ⟨_, rfl⟩
      rw [← hBoe] at HJ0 hBo ⊢
      obtain ⟨wx, hwx⟩ : ∃ wx, wx = wr := ⟨_, rfl⟩
      have HBoe : Hid (Bo = wx.heap.size) := Lib.hid (by rw [hwx]; exact hBoe)
      have HNx2 : Hid (NextIn (w.heap.size + 1) vals rows n wx) := Lib.hid (by rw [hwx]; exact HNx.out)
      have HJ0 : Hid (Below w.heap.size w (wr.alloc (.cells (bools RL) 4)) ∧ Below Bo wx (wr.alloc (.cells (bools RL) 4)) ∧ Blk (wr.alloc (.cells (bools RL) 4)) Bo 4 (bools RL) ∧ RL.length = n ∧ ∀ k : Nat, k < 0 → (RL[k]? = some true ↔ Far (stepE rows) k k)) := Lib.hid (by rw [hwx]; exact HJ0.out)
      clear hwx
      have hBB : w.heap.size + 1 < Bo := by omega
      clear hBoe HNx HBl HRl HBlk c0 l0 hbB
      go_wp2
      go_loopw [37] (fun vj wr => ∃ (j : Nat) (R : List Bool), vj = .int .i64 j ∧ j ≤ n ∧ Hid (Below w.heap.size w wr ∧ Below Bo wx wr ∧ Blk wr Bo 4 (bools R) ∧ R.length = n ∧ ∀ k : Nat, k < j → (R[k]? = some true ↔ Far (stepE rows) k k))) (fun vj _ => n - (intOf vj).toNat)
      case atStart => exact ⟨0, RL, rfl, Nat.zero_le _, HJ0⟩
      case round =>
        clear HJ0
        obtain ⟨j, R, rfl, hj, KJ⟩ := hrel
        by_cases hjn : j < n
        · have HC := Lib.hid (comesBack_any vals rows n (w.heap.size + 1) j wr hn2 (HNx2.out.below (HBoe.out ▸ KJ.out.2.1)) HLen.out HIn.out hjn)
          have z1 : (j : Int) < (n : Int) := by omega
          have z0 : (0 : Int) ≤ (j : Int) := by omega
          go_wp2_with fail
          refine HC.out.mono ?_
          rintro e w6 ⟨v, rfl, hv, hB6⟩
          have HV := Lib.hid hv
          have hblk6 := KJ.out.2.2.1.below hB6 KJ.out.2.2.1.lt
          have cB := hblk6.cell j
          rw [bools_at R j (by rw [KJ.out.2.2.2.1]; exact hjn)] at cB
          have fB := hblk6.frozen j
          have lB := hblk6.lt
          have HZ : Hid (Below w.heap.size w (w6.setCell ⟨Bo, j, none⟩ (.bool v)) ∧ Below Bo wx (w6.setCell ⟨Bo, j, none⟩ (.bool v)) ∧ Blk (w6.setCell ⟨Bo, j, none⟩ (.bool v)) Bo 4 (bools (R.set j v)) ∧ (R.set j v).length = n ∧ ∀ k : Nat, k < j + 1 → ((R.set j v)[k]? = some true ↔ Far (stepE rows) k k)) := Lib.hid (by
            refine ⟨(KJ.out.1.trans (hB6.mono KJ.out.1.size)).setCell (p := ⟨Bo, j, none⟩) hBo _, (KJ.out.2.1.trans (hB6.mono (HBoe.out ▸ KJ.out.2.1.size))).setCell (p := ⟨Bo, j, none⟩) (Nat.le_refl _) _, by rw [← bools_setv]; exact hblk6.set j _, by rw [List.length_set]; exact KJ.out.2.2.2.1, fun k hk => ?_⟩
            by_cases e : j = k
            · subst e
              rw [List.getElem?_set_self (by rw [KJ.out.2.2.2.1]; exact hjn)]
              rw [← hv]
              simp
            · rw [List.getElem?_set_ne e]
              exact KJ.out.2.2.2.2 k (by omega))
          clear hv hB6 hblk6 KJ HC
          go_wp2
          go_roundw
          case rel => exact ⟨j + 1, R.set j v, by go_num, by omega, HZ⟩
          case measure => simp [intOf]; omega
        · obtain rfl : j = n := by omega
          have HF := Lib.hid (HCE.out R KJ.out.2.2.2.1 (fun k hk => by rw [← HSE.out]; exact KJ.out.2.2.2.2 k hk))
          have HRn : Hid (R.length = j) := Lib.hid KJ.out.2.2.2.1
          have HB := Lib.hid KJ.out.1
          have HBk := Lib.hid KJ.out.2.2.1
          clear KJ
          go_wp2
          go_ret
          exact ⟨R, Bo, HF.out, by rw [HRn.out]; rfl, hBo, HBk.out, HB.out⟩
    · intro p1 p2 w5 cnt5 hLp hKp hrg5 hlt5 hg5 hs5 hen5
      obtain ⟨k, t, hp, hk, ht⟩ := HKK.out (p1, p2) hKp
      obtain ⟨rfl, rfl⟩ : p1 = k ∧ p2 = t := by simpa using hp
      clear hp
      have hx := KC.out.lt
      have hNX5 : NX w N (w.heap.size + 1) n vals rows w5 := by
        have h := KC.out.nx
        have hx' := h.hx
        have hri : ∀ (k : Nat) (v : Value) (rr : List Int), vals[k]? = some v → rows[k]? = some rr → ∀ g, v.ownBlock = some g → some g ≠ some r := fun k v rr hv hr g hg e => by
          have := own_lt (h.own k v rr hv hr) hg
          cases e
          omega
        exact ⟨h.blk.kept hg5 (by simp; omega), h.vlen, h.rlen, fun k v rr hv hr => own_keep (h.own k v rr hv hr) hg5 (hri k v rr hv hr), h.apart, h.low.grown hg5 h.low.size (fun j e => by cases e; omega), by have := hg5.size; omega⟩
      have hNX6 := hNX5.below (World.grownBy_alloc w5 (.cells #[.int .i64 (k : Int), .int .i64 (t : Int)] 115) none)
      have hbx := Blk.new w5 115 #[.int .i64 (k : Int), .int .i64 (t : Int)]
      have hrg6 := hrg5.alloc (.cells #[.int .i64 (k : Int), .int .i64 (t : Int)] 115)
      have HG6 : Hid (Blk (w5.alloc (.cells #[.int .i64 (k : Int), .int .i64 (t : Int)] 115)) w.heap.size 27 #[.slice g.sa n g.sc, .slice g.pa g.prods.length g.pc, .int .i64 g.start, .slice g.fa g.forbid.length g.fc, .slice g.wa g.follow.length g.wc]) := Lib.hid ((KG.out.kept hg5 (by simp; omega)).alloc _)
      obtain ⟨v, hv⟩ : ∃ v, vals[k]? = some v := ⟨_, List.getElem?_eq_getElem (by rw [hNX6.vlen]; exact hk)⟩
      obtain ⟨rr, hrr⟩ : ∃ rr, rows[k]? = some rr := ⟨_, List.getElem?_eq_getElem (by rw [hNX6.rlen]; exact hk)⟩
      have hrl := KC.out.len rr (List.mem_of_getElem? hrr)
      obtain ⟨W0, hW0⟩ : ∃ W0, W0 = (w5.alloc (.cells #[.int .i64 (k : Int), .int .i64 (t : Int)] 115)).drew := ⟨_, rfl⟩
      have hNX0 : NX w N (w.heap.size + 1) n vals rows W0 := by rw [hW0]; exact hNX6.below (grown_of_below (Below.refl _ _).drew none)
      have hbx0 : Blk W0 w5.heap.size 115 #[.int .i64 (k : Int), .int .i64 (t : Int)] := by rw [hW0]; exact hbx
      have hrg0 : RangeL W0 b r nn K (fun t_1 => Lf t_1 ∧ ¬t_1 = ((k : Int), (t : Int))) cnt5 := by rw [hW0]; exact hrg6.kept (grown_of_below (Below.refl _ _).drew none) (by simp) (by simp)
      have HG0 : Hid (Blk W0 w.heap.size 27 #[.slice g.sa n g.sc, .slice g.pa g.prods.length g.pc, .int .i64 g.start, .slice g.fa g.forbid.length g.fc, .slice g.wa g.follow.length g.wc]) := Lib.hid (by rw [hW0]; exact HG6.out)
      have hNX1 := hNX0.below (World.grownBy_alloc W0 (.cells #[.int .i64 (t : Int)] 3) none)
      have hown1 := hNX1.own k v rr hv hrr
      obtain ⟨va, vc, rfl, _, _⟩ := own_slice hown1
      have hsz0 : N ≤ W0.heap.size := hNX0.hx.2.2
      obtain ⟨g5, cap5, w7, hrun7, hown7, hgr7, hg7, hlt7⟩ := run_append_lies (P := Tryz.prog) (w := W0.alloc (.cells #[.int .i64 (t : Int)] 3)) 48 48 N 3 i3 _ 1 8 Tryz.underlying48 ti3 tz3 ts3 tb3 rfl (by omega) _ rr.length (cellsL intC rr) hown1 ⟨W0.heap.size, 0, none⟩ 1 1 [.int .i64 (t : Int)] rfl (cells_new W0 #[.int .i64 (t : Int)] 3) (fun u hu => by simp at hu; subst hu; rfl) (by omega) (by unfold maxLen; omega) (by omega) (by simp; omega) _ rfl
      have hgb : ∀ g', (Value.slice (some ⟨g5, 0, none⟩) (rr.length + 1) cap5).ownBlock = some g' → (Value.slice va rr.length vc).ownBlock = some g' ∨ (W0.alloc (.cells #[.int .i64 (t : Int)] 3)).heap.size ≤ g' := fun g' hg' => by
        have e : g5 = g' := by simpa [Value.ownBlock] using hg'
        subst e
        rcases hg7 with h | h
        · exact .inl h
        · exact .inr (by omega)
      have hNX8 := hNX1.put hv hrr (t := (t : Int)) (by rw [cellsL_snoc]; exact hown7) hgr7 hgb
      have hvne : ∀ B', B' < N → some B' ≠ (Value.slice va rr.length vc).ownBlock := fun B' hB' e => by
        have := own_lt hown1 e.symm
        omega
      have hpbN : N ≤ w5.heap.size := hNX5.hx.2.2
      have hvx : ∀ B' (cs : Array Value), Blk W0 B' 115 cs → some B' ≠ (Value.slice va rr.length vc).ownBlock := fun B' cs hb' e => by
        rcases (hNX0.own k _ rr hv hrr).2 with ⟨h, _⟩ | ⟨g', cap', cur', h, _, h2, _⟩
        · rw [h] at e; cases e
        · rw [h] at e
          have e2 : B' = g' := by simpa [Value.ownBlock] using e
          subst e2
          have h3 : W0.heap[B']? = some (.cells cs 115 (0, 0)) := hb'
          rw [h2] at h3
          cases h3
      have hrg8 : RangeL (w7.setCell ⟨w.heap.size + 1, k, none⟩ (.slice (some ⟨g5, 0, none⟩) (rr.length + 1) cap5)) b r nn K (fun t_1 => Lf t_1 ∧ ¬t_1 = ((k : Int), (t : Int))) cnt5 :=
        (((hrg0.alloc _).kept hgr7 (hvne b hx.1) (hvne r hx.2.1))).kept (grown_set w7 (w.heap.size + 1) k _) (by simp; omega) (by simp; omega)
      have HG8 : Hid (Blk (w7.setCell ⟨w.heap.size + 1, k, none⟩ (.slice (some ⟨g5, 0, none⟩) (rr.length + 1) cap5)) w.heap.size 27 #[.slice g.sa n g.sc, .slice g.pa g.prods.length g.pc, .int .i64 g.start, .slice g.fa g.forbid.length g.fc, .slice g.wa g.follow.length g.wc]) := Lib.hid (((HG0.out.alloc _).kept hgr7 (hvne _ (by have := hNX0.hx; omega))).other (by show w.heap.size ≠ w.heap.size + 1; omega) _)
      have HL : Hid (∀ W, (∃ s, s < 3 ∧ W = four W0 (W0.alloc (.cells #[.int .i64 (t : Int)] 3)) w7 (w7.setCell ⟨w.heap.size + 1, k, none⟩ (.slice (some ⟨g5, 0, none⟩) (rr.length + 1) cap5)) s) → W.cell? ⟨w5.heap.size, 0, none⟩ = some (.int .i64 (k : Int)) ∧ W.cell? ⟨w5.heap.size, 0 + 1, none⟩ = some (.int .i64 (t : Int)) ∧ W.cell? ⟨w.heap.size + 1, k, none⟩ = some (.slice va rr.length vc)) := Lib.hid fun W hW => by
        have h3 : ∀ V, Blk V w5.heap.size 115 #[.int .i64 (k : Int), .int .i64 (t : Int)] → Blk V (w.heap.size + 1) 48 vals.toArray → V.cell? ⟨w5.heap.size, 0, none⟩ = some (.int .i64 (k : Int)) ∧ V.cell? ⟨w5.heap.size, 0 + 1, none⟩ = some (.int .i64 (t : Int)) ∧ V.cell? ⟨w.heap.size + 1, k, none⟩ = some (.slice va rr.length vc) := fun V h1 h2 => ⟨h1.cell 0, h1.cell 1, by rw [h2.cell, List.getElem?_toArray]; exact hv⟩
        have hx0 := hNX0.hx
        rcases four_lt hW with rfl | rfl | rfl
        · exact h3 _ hbx0 hNX0.blk
        · exact h3 _ (hbx0.alloc _) hNX1.blk
        · exact h3 _ ((hbx0.alloc _).kept hgr7 (hvx _ _ hbx0)) (hNX1.blk.kept hgr7 (hvne _ hx0.2.1))
      have h7c : w7.cell? ⟨w.heap.size + 1, k, none⟩ = some (.slice va rr.length vc) := (HL.out w7 ⟨2, by omega, rfl⟩).2.2
      have h7l : w.heap.size + 1 < w7.heap.size := by have := (hNX1.blk.kept hgr7 (hvne _ hNX0.hx.2.1)).lt; exact this
      have h7f : w7.frozen? ⟨w.heap.size + 1, k, none⟩ = false := (hNX1.blk.kept hgr7 (hvne _ hNX0.hx.2.1)).frozen _
      have HZ : Hid (CR w N (w.heap.size + 1) n nn b r K (fun t_1 => Lf t_1 ∧ ¬t_1 = ((k : Int), (t : Int))) cnt5 (vals.set k (.slice (some ⟨g5, 0, none⟩) (rr.length + 1) cap5)) (rows.set k (rr ++ [(t : Int)])) (w7.setCell ⟨w.heap.size + 1, k, none⟩ (.slice (some ⟨g5, 0, none⟩) (rr.length + 1) cap5))) := Lib.hid ⟨hrg8, hNX8, hx, fun k' t' => by
          have hm := KC.out.mem k' t'
          have hkr := (List.getElem?_eq_some_iff.1 hrr).1
          by_cases e : k = k'
          · subst e
            rw [List.getElem?_set_self hkr]
            constructor
            · rintro ⟨rr', h1, h2⟩
              cases h1
              rcases List.mem_append.1 h2 with h2 | h2
              · obtain ⟨h3, h4⟩ := hm.1 ⟨rr, hrr, h2⟩
                exact ⟨h3, fun h => h4 h.1⟩
              · simp at h2; subst h2
                exact ⟨hKp, fun h => h.2 rfl⟩
            · rintro ⟨h1, h2⟩
              refine ⟨_, rfl, List.mem_append.2 ?_⟩
              by_cases e2 : t' = (t : Int)
              · exact .inr (by simp [e2])
              · obtain ⟨r2, h3, h4⟩ := hm.2 ⟨h1, fun h => h2 ⟨h, fun e3 => e2 (by simpa using e3)⟩⟩
                rw [hrr] at h3; cases h3
                exact .inl h4
          · rw [List.getElem?_set_ne e, hm]
            constructor
            · rintro ⟨h1, h2⟩; exact ⟨h1, fun h => h2 h.1⟩
            · rintro ⟨h1, h2⟩; exact ⟨h1, fun h => h2 ⟨h, fun e3 => e (by have := congrArg Prod.fst e3; simp at this; omega)⟩⟩,
        fun r' hr' => by
          rcases List.mem_or_eq_of_mem_set hr' with h | rfl
          · have := KC.out.len r' h; omega
          · rw [List.length_append]; simp; omega,
        fun p hp => KC.out.sub p hp.1⟩
      have HMe : Hid ((w7.setCell ⟨w.heap.size + 1, k, none⟩ (.slice (some ⟨g5, 0, none⟩) (rr.length + 1) cap5)).rangeLeft b r = cnt5 ∧ wr.rangeLeft b r = cnt) := Lib.hid ⟨hrg8.left_eq, KC.out.rg.left_eq⟩
      have HW0 := Lib.hid hW0
      have hs5' := hs5
      unfold leadV at hen5
      dsimp only at hen5
      clear hNX5 hNX6 hbx hrg6 HG6 hNX0 hbx0 hrg0 HG0 hNX1 hown1 hown7 hgr7 hg7 hgb hNX8 hvne hvx hrg8 hv hrr hrl hW0 KC KG hsz0 hrg5 hLp hKp hg5 hpbN hlt7
      go_upto_region 5 with (fail)
      rw [← hs5']
      refine wp_region_chain [10, 11, 13] 13 (four W0 (W0.alloc (.cells #[.int .i64 (t : Int)] 3)) w7 (w7.setCell ⟨w.heap.size + 1, k, none⟩ (.slice (some ⟨g5, 0, none⟩) (rr.length + 1) cap5)))
        [.slice (some ⟨w.heap.size + 1, 0, none⟩) n n, .pointer (some ⟨w5.heap.size, 0, none⟩), .int .i64 (k : Int), .slice (some ⟨w.heap.size + 1, 0, none⟩) n n, .pointer (some ⟨w5.heap.size, 0, none⟩), .int .i64 (k : Int), .pointer (some ⟨w.heap.size + 1, k, none⟩), .slice va rr.length vc, .pointer (some ⟨w5.heap.size, 0 + 1, none⟩), .int .i64 (t : Int), .slice (some ⟨W0.heap.size, 0, none⟩) 1 1, .slice (some ⟨g5, 0, none⟩) (rr.length + 1) cap5, .pointer (some ⟨w.heap.size + 1, k, none⟩), undef]
        #[.agg #[.slice g.sa n g.sc, .slice g.pa g.prods.length g.pc, .int .i64 g.start, .slice g.fa g.forbid.length g.fc, .slice g.wa g.follow.length g.wc], .pointer (some ⟨w.heap.size, 0, none⟩), .slice none 0 0, .slice (some ⟨w.heap.size + 1, 0, none⟩) n n, .pointer (some ⟨w5.heap.size, 0, none⟩), undef, undef, .pointer (some ⟨w.heap.size, 0, none⟩), .slice g.sa n g.sc, .int .i64 n, .slice (some ⟨w.heap.size + 1, 0, none⟩) n n,
          .agg #[.slice g.sa n g.sc, .slice g.pa g.prods.length g.pc, .int .i64 g.start, .slice g.fa g.forbid.length g.fc, .slice g.wa g.follow.length g.wc], .map (some b), .pointer (some ⟨r, 0, none⟩), .tuple #[.bool true, leadV ((k : Int), (t : Int)), .agg #[]], .bool true, .tuple #[.agg #[.int .i64 (k : Int), .int .i64 (t : Int)], .agg #[]], .agg #[.int .i64 (k : Int), .int .i64 (t : Int)],
          .slice (some ⟨w.heap.size + 1, 0, none⟩) n n, .pointer (some ⟨w5.heap.size, 0, none⟩), .int .i64 (k : Int), .slice (some ⟨w.heap.size + 1, 0, none⟩) n n, .pointer (some ⟨w5.heap.size, 0, none⟩), .int .i64 (k : Int), .pointer (some ⟨w.heap.size + 1, k, none⟩), .slice va rr.length vc, .pointer (some ⟨w5.heap.size, 0 + 1, none⟩), .int .i64 (t : Int), .slice (some ⟨W0.heap.size, 0, none⟩) 1 1, .slice (some ⟨g5, 0, none⟩) (rr.length + 1) cap5, .pointer (some ⟨w.heap.size + 1, k, none⟩),
          undef, undef, undef, undef, undef, undef, undef, undef, undef, undef, undef, undef, undef, undef, undef, undef, undef]
        rfl (by kernel_rfl) (by kernel_rfl) (by kernel_rfl) (by kernel_rfl) (by kernel_rfl) (by kernel_rfl) HW0.out ?_ ?_ _ rfl ?_
      · exact ⟨⟨_, rfl, Turns.val (.slice (some ⟨W0.heap.size, 0, none⟩) 1 1) (by kernel_rfl) (by kernel_rfl) rfl (by kernel_rfl) (bs48 rfl (by kernel_rfl))⟩, ⟨⟨_, rfl, Turns.val (.slice (some ⟨g5, 0, none⟩) (rr.length + 1) cap5) (by kernel_rfl) (by kernel_rfl) rfl (by kernel_rfl) (ap_of rfl (by kernel_rfl) (by kernel_rfl) hrun7)⟩, ⟨⟨_, rfl, Turns.skip (by kernel_rfl) (by kernel_rfl) rfl (st48 rfl (by kernel_rfl) (by kernel_rfl) h7c h7f h7l)⟩, trivial⟩⟩⟩
      · refine EachS.one (Each.val 18 (.slice (some ⟨w.heap.size + 1, 0, none⟩) n n) (by kernel_rfl) (by kernel_rfl) (by kernel_rfl) (fun _ => rfl) (fun _ _ _ => by kernel_rfl) trivial) ?_
        refine EachS.one (Each.val 19 (.pointer (some ⟨w5.heap.size, 0, none⟩)) (by kernel_rfl) (by kernel_rfl) (by kernel_rfl) (fun _ => rfl) (fun W hS _ => fa115_0 rfl (by kernel_rfl)) trivial) ?_
        refine EachS.one (Each.val 20 (.int .i64 (k : Int)) (by kernel_rfl) (by kernel_rfl) (by kernel_rfl) (fun _ => rfl) (fun W hS _ => ld3 rfl (by kernel_rfl) (HL.out W hS).1) trivial) ?_
        refine EachS.one (Each.val 21 (.slice (some ⟨w.heap.size + 1, 0, none⟩) n n) (by kernel_rfl) (by kernel_rfl) (by kernel_rfl) (fun _ => rfl) (fun _ _ _ => by kernel_rfl) trivial) ?_
        refine EachS.one (Each.val 22 (.pointer (some ⟨w5.heap.size, 0, none⟩)) (by kernel_rfl) (by kernel_rfl) (by kernel_rfl) (fun _ => rfl) (fun W hS _ => fa115_0 rfl (by kernel_rfl)) trivial) ?_
        refine EachS.one (Each.val 23 (.int .i64 (k : Int)) (by kernel_rfl) (by kernel_rfl) (by kernel_rfl) (fun _ => rfl) (fun W hS _ => ld3 rfl (by kernel_rfl) (HL.out W hS).1) trivial) ?_
        refine EachS.one (Each.val 24 (.pointer (some ⟨w.heap.size + 1, k, none⟩)) (by kernel_rfl) (by kernel_rfl) (by kernel_rfl) (fun _ => rfl) (fun W hS _ => ix111 (c := n) rfl (by kernel_rfl) (by kernel_rfl) hk (Nat.zero_add k)) trivial) ?_
        refine EachS.one (Each.val 25 (.slice va rr.length vc) (by kernel_rfl) (by kernel_rfl) (by kernel_rfl) (fun _ => rfl) (fun W hS _ => ld48 rfl (by kernel_rfl) (HL.out W hS).2.2) trivial) ?_
        refine EachS.one (Each.val 26 (.pointer (some ⟨w5.heap.size, 0 + 1, none⟩)) (by kernel_rfl) (by kernel_rfl) (by kernel_rfl) (fun _ => rfl) (fun W hS _ => fa115_1 rfl (by kernel_rfl)) trivial) ?_
        refine EachS.one (Each.val 27 (.int .i64 (t : Int)) (by kernel_rfl) (by kernel_rfl) (by kernel_rfl) (fun _ => rfl) (fun W hS _ => ld3 rfl (by kernel_rfl) (HL.out W hS).2.1) trivial) ?_
        refine EachS.skip (by decide) ?_
        refine EachS.skip (by decide) ?_
        refine EachS.one (Each.val 30 (.pointer (some ⟨w.heap.size + 1, k, none⟩)) (by kernel_rfl) (by kernel_rfl) (by kernel_rfl) (fun _ => rfl) (fun W hS _ => ix111 (c := n) rfl (by kernel_rfl) (by kernel_rfl) hk (Nat.zero_add k)) trivial) ?_
        refine EachS.skip (by decide) ?_
        exact trivial
      · go_wp2
        go_roundw
        case rel => exact ⟨_, cnt5, _, _, HZ, HG8⟩
        case measure => exact Nat.lt_of_le_of_lt (Nat.le_of_eq HMe.out.1) (by rw [HMe.out.2]; exact hlt5)
end Go.Proofs.YtodnlcbnbkkanaaGreatDoor
end
section
namespace Go.Proofs.YtodnlcbnbkkanaaGreatDoor
open Go Go.RowKit

def GrowAt (B b : Nat) (p : Value) (l : List UInt8) (w : World) : Prop :=
  B ≤ b ∧ ∃ v, Blk w b 161 #[p, v] ∧ w.ownsRow B 5 1 v l.length (Lib.byteCells l) ∧ v.ownBlock ≠ some b ∧ (v = .slice none 0 0 ↔ l = [])
def selfP (b : Nat) : Value := .pointer (some ⟨b, 0, none⟩)

set_option maxHeartbeats 1000000 in
set_option maxRecDepth 100000 in
theorem copyCheck_used (b : Nat) (w : World) (h0 : w.cell? ⟨b, 0, none⟩ = some (.pointer (some ⟨b, 0, none⟩))) :
    Calls Tryz.prog 143 #[.pointer (some ⟨b, 0, none⟩)] w fun e w' => e = .returned (.tuple #[]) ∧ w = w' := by
  obtain ⟨j, hj, _⟩ := Option.map_eq_some_iff.1 (show (Tryz.prog.info? 161).map (·.size) = some 2 by kernel_rfl)
  go_enter Tryz.func143, Tryz.ntmps143
  go_wp2
  rw [Lib.run_neq_ptr_same w _ Tryz.underlying159 hj]
  go_wp2
  go_end0
  exact ⟨rfl, rfl⟩

set_option maxHeartbeats 1000000 in
set_option maxRecDepth 100000 in
theorem copyCheck_fresh (b : Nat) (w : World) (h0 : w.cell? ⟨b, 0, none⟩ = some (.pointer none)) (hsh : w.shape? b = some (161, 2)) (hfz : w.frozen? ⟨b, 0, none⟩ = false) :
    Calls Tryz.prog 143 #[.pointer (some ⟨b, 0, none⟩)] w fun e w' => e = .returned (.tuple #[]) ∧ w' = w.setCell ⟨b, 0, none⟩ (.pointer (some ⟨b, 0, none⟩)) := by
  obtain ⟨j, hj, hjs⟩ := Option.map_eq_some_iff.1 (show (Tryz.prog.info? 161).map (·.size) = some 2 by kernel_rfl)
  go_enter Tryz.func143, Tryz.ntmps143
  go_wp2
  rw [Lib.run_to_unsafe w ⟨b, 0, none⟩ Tryz.underlying159 Tryz.underlying213 hj (by rw [hjs]; decide) hsh (Nat.zero_lt_succ 1)]
  simp only [Result.andThen]
  rw [Oper.upon_value]
  go_wp2
  rw [run_callFunc_extern Tryz.func162 (by kernel_rfl) (by kernel_rfl) (by kernel_rfl) (e := Extern.AbiNoEscape.same) (by kernel_rfl)]
  rw [Lib.run_noEscape]
  simp only [Result.andThen]
  rw [Oper.upon_value]
  go_wp2
  rw [Lib.run_from_unsafe w ⟨b, 0, none⟩ Tryz.underlying213 Tryz.underlying159 hj hsh (by kernel_rfl)]
  simp only [Result.andThen]
  rw [Oper.upon_value]
  go_wp2
  go_end0
  exact ⟨rfl, rfl⟩

theorem GrowAt.shape {B b : Nat} {p : Value} {l : List UInt8} {w : World} (h : GrowAt B b p l w) : w.shape? b = some (161, 2) := by
  obtain ⟨_, v, hb, _⟩ := h
  unfold World.shape?
  simp only [show w.heap[b]? = _ from hb]
  rfl
theorem grownBy_setI (W : World) (b i : Nat) (v : Value) : W.grownBy (W.setCell ⟨b, i, none⟩ v) (some b) := grown_set W b i v
theorem ownsRow_other {w : World} {B e size n b : Nat} {v : Value} {xs : List Value} (h : w.ownsRow B e size v n xs) (hne : v.ownBlock ≠ some b) (i : Nat) (u : Value) : (w.setCell ⟨b, i, none⟩ u).ownsRow B e size v n xs :=
  h.kept (grownBy_setI w b i u) (by right; exact hne)

def KeptT (b : Nat) (w w' : World) : Prop := ∀ k t cs, k ≠ b → t ≠ 5 → Blk w k t cs → Blk w' k t cs
theorem copyCheck_any (B b : Nat) (p : Value) (hp : p = .pointer none ∨ p = selfP b) (l : List UInt8) (w : World) (h : GrowAt B b p l w) :
    Calls Tryz.prog 143 #[.pointer (some ⟨b, 0, none⟩)] w fun e w' => e = .returned (.tuple #[]) ∧ GrowAt B b (selfP b) l w' ∧ Below B w w' ∧ KeptT b w w' := by
  have hsh := h.shape
  obtain ⟨hBb, v, hb, hown, hne, hnil⟩ := h
  rcases hp with rfl | rfl
  · refine (copyCheck_fresh b w (hb.cell 0) hsh (hb.frozen 0)).mono ?_
    rintro e w' ⟨rfl, rfl⟩
    exact ⟨rfl, ⟨hBb, v, hb.set 0 _, ownsRow_other hown hne 0 _, hne, hnil⟩, (Below.refl B w).setCell (p := ⟨b, 0, none⟩) hBb _, fun k t cs hk _ h => h.other (a := ⟨b, 0, none⟩) hk _⟩
  · refine (copyCheck_used b w (hb.cell 0)).mono ?_
    rintro e w' ⟨rfl, rfl⟩
    exact ⟨rfl, ⟨hBb, v, hb, hown, hne, hnil⟩, Below.refl _ _, fun k t cs _ _ h => h⟩

theorem infoByte : (Tryz.prog.info? 5).map (fun i => (i.zero, i.size, i.bytes)) = some (some (.int .u8 0), 1, 1) := by kernel_rfl

set_option maxHeartbeats 2000000 in
set_option maxRecDepth 100000 in
theorem write_any (B b : Nat) (p : Value) (hp : p = .pointer none ∨ p = selfP b) (l : List UInt8) (s : ByteArray) (w : World) (h : GrowAt B b p l w) (hlen : l.length + s.size ≤ 140737488355328) (hBw : B ≤ w.heap.size) :
    Calls Tryz.prog 117 #[.pointer (some ⟨b, 0, none⟩), .string s] w fun e w' => e = .returned (.tuple #[.int .i64 s.size, .nilIface]) ∧ GrowAt B b (selfP b) (l ++ s.data.toList) w' ∧ Below B w w' ∧ KeptT b w w' := by
  obtain ⟨i0, hi, hz0, hz1, hz2⟩ := info_parts infoByte
  have HC := Lib.hid (copyCheck_any B b p hp l w h)
  clear h hp
  go_enter Tryz.func117, Tryz.ntmps117
  go_wp2_with fail
  refine HC.out.mono ?_
  rintro e w1 ⟨rfl, ⟨hBb, v, hb, hown, hne, hnil⟩, hb1, hk1⟩
  have Hk1 := Lib.hid hk1
  clear hk1
  have c0 : w1.cell? ⟨b, 0, none⟩ = some (.pointer (some ⟨b, 0, none⟩)) := hb.cell 0
  have c1 : w1.cell? ⟨b, 1, none⟩ = some v := hb.cell 1
  have Hnil := Lib.hid hnil
  clear hnil
  go_wp2_with (at_builtin; refine Lib.wpList_append_own_string _ rfl _ _ 57 9 rfl B 5 i0 Tryz.underlying57 Tryz.underlying9 hi hz0 hz1 hz2 _ _ _ rfl hown s rfl ?c3 ?c4 ?c5 ?_)
  case c3 => unfold maxLen; omega
  case c4 => omega
  case c5 => have := hb1.size; omega
  intro v' w2 hown' hgrow hn2
  have hb2 : Blk w2 b 161 #[selfP b, v] := hb.kept hgrow (fun e => hne e.symm)
  have d0 : w2.cell? ⟨b, 0, none⟩ = some (.pointer (some ⟨b, 0, none⟩)) := hb2.cell 0
  have d1 : w2.cell? ⟨b, 1, none⟩ = some v := hb2.cell 1
  have f1 : w2.frozen? ⟨b, 1, none⟩ = false := hb2.frozen 1
  have Hn2 := Lib.hid hn2
  clear hn2
  obtain ⟨ao, n', cap, rfl⟩ : ∃ ao n' cap, v' = .slice ao n' cap := by
    rcases hown'.2 with ⟨hv, _⟩ | ⟨g, cap, cur, hv, _⟩
    · exact ⟨_, _, _, hv⟩
    · exact ⟨_, _, _, hv⟩
  have hne' : (Value.slice ao n' cap).ownBlock ≠ some b := by
    intro e
    obtain ⟨_, ⟨hv, _⟩ | ⟨g, cap', cur, hv, _, hg, _⟩⟩ := hown'
    · cases hv; simp [Value.ownBlock] at e
    · cases hv
      simp [Value.ownBlock] at e
      subst e
      rw [show w2.heap[g]? = _ from hb2] at hg
      cases hg
  go_wp2
  go_ret2
  refine ⟨rfl, ⟨hBb, _, hb2.set 1 _, ?_, hne', ?_⟩, ?_, ?_⟩
  · have : w2.ownsRow B 5 1 (.slice ao n' cap) (l ++ s.data.toList).length (Lib.byteCells (l ++ s.data.toList)) := by
      have e1 : (l ++ s.data.toList).length = l.length + s.size := by simp
      rw [e1, Lib.byteCells_append, ← Lib.strCells_eq]; exact hown'
    exact ownsRow_other this hne' 1 _
  · rw [Hn2.out, Hnil.out]
    constructor
    · rintro ⟨rfl, h0⟩
      have : s.data.toList.length = 0 := by simpa using h0
      rw [List.length_eq_zero_iff.1 this]; rfl
    · intro h0
      obtain ⟨h1, h2⟩ := List.append_eq_nil_iff.1 h0
      refine ⟨h1, ?_⟩
      have : s.data.toList.length = 0 := by rw [h2]; rfl
      simpa using this
  · exact (hb1.grown hgrow (by have := hb1.size; omega) (fun k hk => (hown.lt k hk).1)).setCell (p := ⟨b, 1, none⟩) hBb _
  · intro k t cs hk ht h
    have h1 := Hk1.out k t cs hk ht h
    refine Blk.other (h1.kept hgrow ?_) (a := ⟨b, 1, none⟩) hk _
    intro e
    rcases hown.2 with ⟨hv, _⟩ | ⟨g, cap', cur, hv, _, hg, _⟩
    · rw [hv] at e; cases e
    · rw [hv] at e
      obtain rfl : k = g := by simpa [Value.ownBlock] using e
      rw [show w1.heap[k]? = _ from h1] at hg
      cases hg
      exact ht rfl

set_option maxHeartbeats 1000000 in
set_option maxRecDepth 100000 in
theorem bstring_any (B b : Nat) (p : Value) (l : List UInt8) (w : World) (h : GrowAt B b p l w) :
    Calls Tryz.prog 118 #[.pointer (some ⟨b, 0, none⟩)] w fun e w' => e = .returned (.string ⟨l.toArray⟩) ∧ Below B w w' := by
  obtain ⟨hBb, v, hb, hown, hne, hnil⟩ := h
  by_cases h0 : l = []
  · have hv := hnil.2 h0
    subst h0 hv
    have hUS : ∀ W : World, (Builtin.unsafeString_ #[196, 3] 9 #[.pointer none, .int .i64 0]).run Tryz.prog W = .ok (.string .empty) W := fun W => by kernel_rfl
    have c1 : w.drew.cell? ⟨b, 1, none⟩ = some (.slice none 0 0) := hb.cell 1
    have hSD : (Builtin.unsafeSliceData_ #[57] 196 #[.slice none 0 0]).run Tryz.prog w.drew = .ok (.pointer none) w.drew := rfl
    clear hown hne hnil
    go_enter Tryz.func118, Tryz.ntmps118
    go_wp2
    go_region
    all_goals (go_wp2; go_ret; exact ⟨rfl, (Below.refl _ _).drew⟩)
  · have hl0 : l.length ≠ 0 := by simpa using h0
    obtain ⟨g, cap, cur, rfl, hbg, hg, hnc, hcm, hcs, htake⟩ : ∃ g cap cur, v = .slice (some ⟨g, 0, none⟩) l.length cap ∧ B ≤ g ∧ w.heap[g]? = some (.cells cur 5 (0, 0)) ∧ l.length ≤ cap ∧ cap ≤ maxLen ∧ cur.size = cap * 1 ∧ cur.toList.take (l.length * 1) = Lib.byteCells l := by
      rcases hown.2 with ⟨_, hz⟩ | ⟨g, cap, cur, hv, r⟩
      · exact absurd hz hl0
      · exact ⟨g, cap, cur, hv, r⟩
    have c1 : w.drew.cell? ⟨b, 1, none⟩ = some (.slice (some ⟨g, 0, none⟩) l.length cap) := hb.cell 1
    have hSD : (Builtin.unsafeSliceData_ #[57] 196 #[.slice (some ⟨g, 0, none⟩) l.length cap]).run Tryz.prog w.drew = .ok (.pointer (some ⟨g, 0, none⟩)) w.drew :=
      Lib.run_unsafeSliceData_row _ _ _ _ _ _ (by omega)
    have hUS : (Builtin.unsafeString_ #[196, 3] 9 #[.pointer (some ⟨g, 0, none⟩), .int .i64 l.length]).run Tryz.prog w.drew = .ok (.string ⟨l.toArray⟩) (w.drew.freeze ⟨g, 0, none⟩ l.length) := by
      refine Lib.run_unsafeString_row w.drew 196 3 9 5 Tryz.underlying196 (by kernel_rfl) g cur.size (by have hg' : w.drew.heap[g]? = some (.cells cur 5 (0, 0)) := hg; simp [World.shape?, hg']) l h0 (by omega) (by unfold maxLen at hcm; omega) ?_
      intro j x hx
      have := hown.cells (g := g) rfl j (.int .u8 x.toNat) (by simp [Lib.byteCells, hx])
      exact this
    clear hown hne hnil hg htake
    go_enter Tryz.func118, Tryz.ntmps118
    go_wp2
    go_region
    all_goals (go_wp2; go_ret; exact ⟨rfl, Lib.below_freeze (Below.drew (Below.refl B w)) (p := ⟨g, 0, none⟩) hbg _⟩)
end Go.Proofs.YtodnlcbnbkkanaaGreatDoor
end
section
namespace Go.Proofs.YtodnlcbnbkkanaaGreatDoor
open Go Go.RowKit

def bs (l : List UInt8) : ByteArray := ⟨l.toArray⟩
theorem bs_size (l : List UInt8) : (bs l).size = l.length := by unfold bs; simp [ByteArray.size]
theorem bs_list (l : List UInt8) : (bs l).data.toList = l := by unfold bs; simp
def Leaf (W : World) (b : Nat) (t : List UInt8) : Prop := Blk W b 192 #[.int .i64 t.length, .string (bs t), .slice none 0 0]
def RopeAt : Nat → World → Nat → List UInt8 → Prop
  | 0, W, b, t => Leaf W b t
  | d + 1, W, b, t => Leaf W b t ∨ (4096 < t.length ∧ ∃ (g c : Nat) (ps : List (Nat × List UInt8)), 2 ≤ ps.length ∧ t = (ps.map (·.2)).flatten ∧ Blk W b 192 #[.int .i64 t.length, .string (bs []), .slice (some ⟨g, 0, none⟩) ps.length c] ∧ g < W.heap.size ∧
      ∀ (i : Nat) (p : Nat × List UInt8), ps[i]? = some p → W.cell? ⟨g, i, none⟩ = some (.pointer (some ⟨p.1, 0, none⟩)) ∧ p.2 ≠ [] ∧ RopeAt d W p.1 p.2)
def TxtAt (W : World) (b : Nat) (t : List UInt8) : Prop := ∃ d, RopeAt d W b t
theorem Leaf.below {W V : World} {b : Nat} {t : List UInt8} (h : Leaf W b t) (hB : Below W.heap.size W V) : Leaf V b t := Blk.below h hB (Blk.lt h)
theorem TxtAt.leaf {W : World} {b : Nat} {t : List UInt8} (h : TxtAt W b t) (ht : t.length ≤ 4096) : Leaf W b t := by
  obtain ⟨d, h⟩ := h
  cases d with
  | zero => exact h
  | succ d =>
    rcases h with h | ⟨h, _⟩
    · exact h
    · omega
theorem Leaf.txt {W : World} {b : Nat} {t : List UInt8} (h : Leaf W b t) : TxtAt W b t := ⟨0, h⟩
theorem Leaf.kept {W V : World} {b : Nat} {t : List UInt8} {q : Option Nat} (h : Leaf W b t) (hg : W.grownBy V q) (hne : some b ≠ q) : Leaf V b t := Blk.kept h hg hne

set_option maxRecDepth 100000 in
set_option maxHeartbeats 1000000 in
theorem whole_any (l : List UInt8) (w : World) (hl : l.length ≤ 9223372036854775807) :
    Calls Tryz.prog 140 #[.string (bs l)] w fun e w' => e = .returned (.pointer (some ⟨w.heap.size, 0, none⟩)) ∧ w' = w.alloc (.cells #[.int .i64 l.length, .string (bs l), .slice none 0 0] 192) := by
  have hs := bs_size l
  generalize bs l = s at *
  obtain ⟨n, hn⟩ : ∃ n, n = l.length := ⟨_, rfl⟩
  rw [← hn] at hs hl ⊢
  clear hn
  go_enter Tryz.func140, Tryz.ntmps140
  go_wp2
  go_ret
  exact ⟨rfl, rfl⟩

set_option maxRecDepth 100000 in
set_option maxHeartbeats 1000000 in
theorem isNaN_any (n : Int) (w : World) : Calls Tryz.prog 169 #[.int .i64 n] w fun e w' => e = .returned (.bool false) ∧ w = w' := by
  go_enter Tryz.func169, Tryz.ntmps169
  go_wp2
  go_ret
  exact ⟨rfl, rfl⟩
def cmpI (a b : Int) : Int := if a < b then -1 else if b < a then 1 else 0
set_option maxRecDepth 100000 in
set_option maxHeartbeats 2000000 in
theorem cmp_any (a b : Int) (w : World) : Calls Tryz.prog 156 #[.int .i64 a, .int .i64 b] w fun e w' => e = .returned (.int .i64 (cmpI a b)) ∧ w = w' := by
  unfold cmpI
  by_cases h1 : a < b
  · rw [if_pos h1]
    go_enter Tryz.func156, Tryz.ntmps156
    go_wp2_with (go_at_call 169; refine (isNaN_any _ _).mono ?_; rintro e w' ⟨rfl, rfl⟩)
    go_ret
    exact ⟨rfl, rfl⟩
  · rw [if_neg h1]
    have h1b : decide (a < b) = false := by simpa using h1
    by_cases h2 : b < a
    · rw [if_pos h2]
      have h2b : decide (b < a) = true := by simpa using h2
      clear h1
      go_enter Tryz.func156, Tryz.ntmps156
      go_wp2_with (go_at_call 169; refine (isNaN_any _ _).mono ?_; rintro e w' ⟨rfl, rfl⟩)
      go_ret
      exact ⟨rfl, rfl⟩
    · rw [if_neg h2]
      have h2b : decide (b < a) = false := by simpa using h2
      clear h1 h2
      go_enter Tryz.func156, Tryz.ntmps156
      go_wp2_with (go_at_call 169; refine (isNaN_any _ _).mono ?_; rintro e w' ⟨rfl, rfl⟩)
      go_ret
      exact ⟨rfl, rfl⟩
end Go.Proofs.YtodnlcbnbkkanaaGreatDoor
end
