import Derived.Deep.AppendLies
import Derived.Deep.RegionLaw
import Derived.RangeFuncBox
import Derived.Laws.IdiomArrays
import Derived.OpenShut
import Derived.Deep.DeepCutAuto
import Derived.Deep.RegionHeld3
import Derived.WideKeyArr
import Derived.Maps.Keyed
import Derived.Maps.RangeWalk
import Derived.Maps.OwnSet
import Derived.Maps.Views
import Derived.Sort.OwnSorted
import Derived.Test.YtegmoeeeomjkgaaDoorZ2
import Derived.Test.YtegmoeeeomjkgaaDoorZ3
import Derived.Test.YtegmoeeeomjkgaaDoorZ4
section
namespace Go.Proofs.YtegmoeeeomjkgaaDoor
open Go Go.RowKit

/-- A set's bytes below k, rising. -/
def bytesTo (s : BS) (k : Nat) : List Nat := (List.range' 0 k).filter (fun j => s.getLsbD j)
theorem bytesTo_succ (s : BS) (k : Nat) : bytesTo s (k + 1) = if s.getLsbD k = true then bytesTo s k ++ [k] else bytesTo s k := by
  unfold bytesTo
  rw [List.range'_1_concat, List.filter_append]
  cases h : s.getLsbD k <;> simp [h]
theorem bytesTo_len (s : BS) (k : Nat) : (bytesTo s k).length ≤ k := by
  unfold bytesTo
  refine Nat.le_trans (List.length_filter_le _ _) ?_
  rw [List.length_range']
  exact Nat.le_refl _

set_option maxRecDepth 100000 in
set_option maxHeartbeats 4000000 in
theorem rbytes_any (s : BS) (w : World) :
    Calls Tryd.prog 21 #[vset s] w fun e W' => ∃ v, e = .returned v ∧ W'.ownsRow w.heap.size 5 1 v (bytesL s).length ((bytesL s).map byteV) ∧ Below w.heap.size w W' := by
  obtain ⟨i0, hi, hz0, hz1, hz2⟩ := info_parts Tryd.info5
  have HL : Hid (∀ k, bytesTo s (k + 1) = if s.getLsbD k = true then bytesTo s k ++ [k] else bytesTo s k) := bytesTo_succ s
  have HLen : Hid (∀ k, (bytesTo s k).length ≤ k) := bytesTo_len s
  have HZ0 : Hid (bytesTo s 0 = []) := Lib.hid rfl
  have HE : Hid (bytesTo s 256 = bytesL s) := Lib.hid rfl
  generalize bytesTo s = L at HL HZ0 HE HLen
  unfold vset
  go_enter Tryd.func21, Tryd.ntmps21
  go_wp2
  go_loopw [3, 4] (fun q i wr => ∃ (k : Nat), i = .int .i64 k ∧ k ≤ 256 ∧ Hid (Blk wr w.heap.size 29 (cset s)) ∧ Hid (wr.ownsRow w.heap.size 5 1 q (L k).length ((L k).map byteV)) ∧ Hid (Below w.heap.size w wr))
    (fun _ i _ => 256 - (intOf i).toNat)
  case atStart =>
    refine ⟨0, rfl, Nat.zero_le _, Blk.new w 29 _, ?_, (Below.refl _ w).alloc (Nat.le_refl _) _⟩
    rw [HZ0.out]
    exact World.ownsRow_nil _ _ _ _
  case round =>
    obtain ⟨k, rfl, hk, hA, hO, hB⟩ := hrel
    by_cases hlt : k < 256
    · have HN := Lib.hid (HL.out k)
      have hll := HLen.out k
      have HH := fun w' => Lib.hid (rhas_any s k hlt w')
      obtain ⟨l, hl⟩ : ∃ l, l = L k := ⟨_, rfl⟩
      rw [← hl] at HN hO hll
      clear hl
      have c0 : wr.cell? ⟨w.heap.size, 0, none⟩ = some (.int .u64 (wdI s 0)) := hA.out.cell 0
      have c1 : wr.cell? ⟨w.heap.size, 1, none⟩ = some (.int .u64 (wdI s 1)) := hA.out.cell 1
      have c2 : wr.cell? ⟨w.heap.size, 2, none⟩ = some (.int .u64 (wdI s 2)) := hA.out.cell 2
      have c3 : wr.cell? ⟨w.heap.size, 3, none⟩ = some (.int .u64 (wdI s 3)) := hA.out.cell 3
      cases hbit : s.getLsbD k with
      | false =>
        rw [hbit] at HN HH
        have HN2 : Hid (L (k + 1) = l) := Lib.hid HN.out
        clear hbit HN
        go_wp2_with fail
        refine (HH _).out.mono ?_
        rintro e w1 ⟨rfl, hB1⟩
        have hA1 := Lib.hid (hA.out.below hB1 hA.out.lt)
        have hO1 := Lib.hid (own_below hO.out hB1 (Nat.le_refl _))
        have hBB := Lib.hid (hB.out.trans (hB1.mono hB.out.size))
        clear hA hO hB hB1 c0 c1 c2 c3 HH
        go_wp2
        go_roundw
        case rel =>
          refine ⟨k + 1, by go_num, by omega, hA1, ?_, hBB⟩
          rw [HN2.out]; exact hO1
        case measure => simp [intOf]; omega
      | true =>
        rw [hbit] at HN HH
        have HN2 : Hid (L (k + 1) = l ++ [k]) := Lib.hid HN.out
        clear hbit HN
        have hcv : IntKind.u8.wrap (k : Int) = (k : Int) := by rw [IntKind.wrap_u8']; omega
        go_wp2_with fail
        refine (HH _).out.mono ?_
        rintro e w1 ⟨rfl, hB1⟩
        have hA1 := Lib.hid (hA.out.below hB1 hA.out.lt)
        have hO1 := Lib.hid (own_below hO.out hB1 (Nat.le_refl _))
        have hBB := Lib.hid (hB.out.trans (hB1.mono hB.out.size))
        have hsz1 : w.heap.size ≤ w1.heap.size := hBB.out.size
        clear hA hO hB hB1 c0 c1 c2 c3 HH
        go_wp2_with (at_builtin; refine wpList_append_own _ rfl _ _ 23 rfl w.heap.size 5 i0 (.int .u8 0) 1 1 Tryd.underlying23 hi hz0 hz1 hz2 rfl (by decide) _ _ _ rfl (hO1.out.alloc _) ⟨w1.heap.size, 0, none⟩ 1 1 [.int .u8 k] rfl rfl (cell_one_new _ _ _) (by simp [Value.oneCell']) (by unfold maxLen; omega) (by omega) (by simp; omega) ?_; intro v4 w4 hown4 hgrow _)
        have hf4 := own_fin (hO1.out.alloc _) ((Lib.OthersKept.refl 5 none w1).alloc _) ((Below.refl w.heap.size w1).alloc hsz1 _) hsz1 hgrow
        have hA4 := Lib.hid (blk_others hA1.out (by decide) hf4.1)
        have hB4 := Lib.hid (hBB.out.trans hf4.2)
        have hO4 := Lib.hid hown4
        clear hA1 hO1 hBB hf4 hown4 hgrow
        go_roundw
        case rel =>
          refine ⟨k + 1, by go_num, by omega, hA4, ?_, hB4⟩
          rw [HN2.out, List.length_append, List.map_append]; exact hO4
        case measure => simp [intOf]; omega
    · obtain rfl : k = 256 := by omega
      rw [HE.out] at hO
      go_wp2
      go_ret
      exact ⟨u3, rfl, hO.out, hB.out⟩
end Go.Proofs.YtegmoeeeomjkgaaDoor
end
section
namespace Go.Proofs.YtegmoeeeomjkgaaDoor
open Go Go.RowKit

theorem pc_len (x : Nat) : ∀ n, pc x n = ((List.range' 0 n).filter (fun j => x.testBit j)).length := by
  intro n
  induction n with
  | zero => rfl
  | succ n ih =>
    rw [List.range'_1_concat, List.filter_append, List.length_append, ← ih]
    show pc x n + (if x.testBit n then 1 else 0) = _
    cases h : x.testBit n <;> simp [h]

theorem cnt_len (s : BS) : cnt s = (bytesL s).length := by
  unfold cnt bytesL
  rw [pc_len]
  rfl

theorem within_eq (a b : BS) : (a &&& ~~~b == 0#256) = (a &&& b == a) := by
  rw [Bool.eq_iff_iff, beq_iff_eq, beq_iff_eq]
  constructor
  · intro h
    apply BitVec.eq_of_getLsbD_eq; intro j hj
    have h1 := congrArg (fun x => BitVec.getLsbD x j) h
    simp only [BitVec.getLsbD_and, BitVec.getLsbD_not, hj, decide_true, Bool.true_and, BitVec.getLsbD_zero] at h1
    rw [BitVec.getLsbD_and]
    cases ha : a.getLsbD j <;> cases hb : b.getLsbD j <;> simp_all
  · intro h
    apply BitVec.eq_of_getLsbD_eq; intro j hj
    have h1 := congrArg (fun x => BitVec.getLsbD x j) h
    simp only [BitVec.getLsbD_and] at h1
    simp only [BitVec.getLsbD_and, BitVec.getLsbD_not, hj, decide_true, Bool.true_and, BitVec.getLsbD_zero]
    cases ha : a.getLsbD j <;> cases hb : b.getLsbD j <;> simp_all

/-- A rising list's k-th is k at least. -/
theorem rising_ge : ∀ (l : List Nat), l.Pairwise (· < ·) → ∀ (k x : Nat), l[k]? = some x → k ≤ x := by
  intro l hl k
  induction k with
  | zero => intro x _; omega
  | succ k ih =>
    intro x hx
    have hk : k + 1 < l.length := (List.getElem?_eq_some_iff.1 hx).1
    have h1 := ih l[k] (List.getElem?_eq_getElem (by omega))
    have h2 := (List.pairwise_iff_getElem.1 hl) k (k + 1) (by omega) hk (by omega)
    have h3 : l[k + 1] = x := by
      rw [List.getElem?_eq_getElem hk] at hx; exact Option.some.inj hx
    omega
theorem bytesL_rising (s : BS) : (bytesL s).Pairwise (· < ·) := by
  unfold bytesL
  exact List.Pairwise.filter _ List.pairwise_lt_range'
theorem bytesL_ge (s : BS) (k x : Nat) (h : (bytesL s)[k]? = some x) : k ≤ x := rising_ge _ (bytesL_rising s) k x h

theorem rngs_take_nil (l : List Nat) (k : Nat) (rs : List (Nat × Nat)) (r : Nat × Nat) (h : rngs (l.take k) = rs ++ [r]) : 0 < k := by
  cases k with
  | zero => simp [rngs] at h
  | succ k => omega

/-- The document's step, written otherwise. -/
theorem rstep_other (rs : List (Nat × Nat)) (r : Nat × Nat) (x : Nat) (hr : r.2 < 256) (hx : x < 256) (hx0 : 0 < x) :
    rstep (rs ++ [r]) x = if r.2 + 1 = x then rs ++ [(r.1, x)] else rs ++ [r] ++ [(x, x)] := by
  simp only [rstep, List.getLast?_append, List.getLast?_singleton, Option.some_or]
  have : ((x + 256 - r.2) % 256 = 1) ↔ (r.2 + 1 = x) := by omega
  simp [this]
end Go.Proofs.YtegmoeeeomjkgaaDoor
end
section
namespace Go.Proofs.YtegmoeeeomjkgaaDoor
open Go Go.RowKit

/-- What an append of ranges leaves: nothing else has turned. -/
theorem own_finR {w w1 w' : World} {n₀ : Nat} {v : Value} {n : Nat} {xs : List Value} (hown : w1.ownsRow n₀ 26 2 v n xs) (hk : Lib.OthersKept 26 none w w1) (hB : Below n₀ w w1) (hn : n₀ ≤ w.heap.size) (hg : w1.grownBy w' v.ownBlock) :
    Lib.OthersKept 26 none w w' ∧ Below n₀ w w' := by
  refine ⟨hk.grown hg (fun g e => Lib.ownsRow_kind hown g e), hB.grown hg (Nat.le_trans hn hB.size) fun j ej => ?_⟩
  rcases hown.2 with ⟨rfl, _⟩ | ⟨g, cap, cur, rfl, hb, _⟩
  · cases ej
  · obtain rfl : g = j := by simpa [Value.ownBlock] using ej
    exact hb
theorem own_othersR {W W' : World} {n₀ size n : Nat} {e : TypeId} {v : Value} {xs : List Value} (h : W.ownsRow n₀ e size v n xs) (he : e ≠ 26) (hk : Lib.OthersKept 26 none W W') : W'.ownsRow n₀ e size v n xs := by
  refine ⟨h.1, ?_⟩
  rcases h.2 with h1 | ⟨g, cap, cur, h1, h2, h3, h4⟩
  · exact .inl h1
  · exact .inr ⟨g, cap, cur, h1, h2, hk g _ h3 (by simp) (fun c fz e' => by cases e'; exact he rfl), h4⟩

theorem owned_rowY {w : World} {n₀ : Nat} {v : Value} {l : List Nat} (h : w.ownsRow n₀ 5 1 v l.length (l.map byteV)) : ∃ a cap, v = .slice a l.length cap ∧ RowY w a l := by
  rcases h.2 with ⟨rfl, h0⟩ | ⟨g, cap, cur, rfl, _⟩
  · have : l = [] := List.length_eq_zero_iff.1 h0
    subst this
    exact ⟨none, 0, rfl, fun i x hx => by simp at hx⟩
  · refine ⟨_, cap, rfl, fun i x hx => ?_⟩
    have hi := (List.getElem?_eq_some_iff.1 hx).1
    refine ⟨g, 0, rfl, ?_⟩
    rw [Nat.zero_add, h.cellAt i (by omega), List.getElem?_map, hx]
    rfl

set_option maxRecDepth 100000 in
set_option maxHeartbeats 8000000 in
theorem rranges_any (s : BS) (w : World) :
    Calls Tryd.prog 24 #[vset s] w fun e W' => ∃ v, e = .returned v ∧ W'.ownsRow w.heap.size 26 2 v (rngs (bytesL s)).length (cellsR (rngs (bytesL s))) ∧ Below w.heap.size w W' := by
  obtain ⟨iR, hiR, hzR0, hzR1, hzR2⟩ := info_parts Tryd.info26
  have HBy := fun w' => Lib.hid (rbytes_any s w')
  have hlenL := length_bytesL s
  have HSm : Hid (∀ x ∈ bytesL s, x < 256) := fun x hx => ((mem_bytesL s x).1 hx).1
  have HGe : Hid (∀ k x, (bytesL s)[k]? = some x → k ≤ x) := bytesL_ge s
  generalize bytesL s = L at HBy hlenL HSm HGe ⊢
  unfold vset at HBy ⊢
  go_enter Tryd.func24, Tryd.ntmps24
  go_wp2_with fail
  refine (HBy _).out.mono ?_
  rintro e w1 ⟨v, rfl, hown1, hB1⟩
  obtain ⟨al, cl, rfl, _⟩ := owned_rowY hown1
  have hOL := Lib.hid hown1
  have hB0 := Lib.hid (((Below.refl _ w).alloc (Nat.le_refl _) (.cells (cset s) 29)).trans (hB1.mono (by simp)))
  clear hown1 hB1 HBy
  have hsz0 : w.heap.size ≤ w1.heap.size := hB0.out.size
  have hOL2 : Hid (w1.ownsRow w.heap.size 5 1 (.slice al L.length cl) L.length (L.map byteV)) := by
    refine Lib.hid ⟨hOL.out.1, ?_⟩
    rcases hOL.out.2 with h1 | ⟨g, cap, cur, h1, h2, h3⟩
    · exact .inl h1
    · exact .inr ⟨g, cap, cur, h1, by simp at h2; omega, h3⟩
  clear hOL
  go_wp2
  go_loopw [3, 5] (fun q i wr => ∃ (k : Nat), i = .int .i64 k ∧ k ≤ L.length ∧ Hid (wr.ownsRow w.heap.size 26 2 q (rngs (L.take k)).length (cellsR (rngs (L.take k)))) ∧ Hid (wr.ownsRow w.heap.size 5 1 (.slice al L.length cl) L.length (L.map byteV)) ∧ Hid (Below w.heap.size w wr))
    (fun _ i _ => L.length - (intOf i).toNat)
  case atStart => exact ⟨0, rfl, Nat.zero_le _, World.ownsRow_nil _ _ _ _, hOL2, hB0⟩
  case round =>
    clear hOL2 hB0
    obtain ⟨k, rfl, hk, hO, hL, hB⟩ := hrel
    by_cases hlt : k < L.length
    · have HX : Hid (L[k]? = some L[k]) := Lib.hid (List.getElem?_eq_getElem hlt)
      have hx256 := HSm.out L[k] (List.getElem_mem hlt)
      have hge := HGe.out k L[k] (List.getElem?_eq_getElem hlt)
      obtain ⟨x, hx⟩ : ∃ x, L[k] = x := ⟨_, rfl⟩
      rw [hx] at HX hx256 hge
      have HRS : Hid (rngs (L.take (k + 1)) = rstep (rngs (L.take k)) x) := by
        refine Lib.hid ?_
        rw [List.take_add_one, HX.out]; exact rngs_snoc _ _
      clear hx
      have hlenP : (rngs (L.take k)).length ≤ 256 := by
        have h1 := rngs_length (L.take k)
        rw [List.length_take] at h1
        omega
      have hsm : SmallR (rngs (L.take k)) := rngs_small _ (fun y hy => HSm.out y (List.mem_of_mem_take hy))
      have hpos : ∀ rs r, rngs (L.take k) = rs ++ [r] → 0 < k := fun rs r h => rngs_take_nil L k rs r h
      obtain ⟨rs, hrs⟩ : ∃ rs, rs = rngs (L.take k) := ⟨_, rfl⟩
      rw [← hrs] at hO HRS hlenP hsm hpos
      clear hrs
      obtain ⟨al', cl', hsl, hrow⟩ := owned_rowY hL.out
      obtain ⟨b, off, hab, e0⟩ := hrow k _ HX.out
      cases hsl
      subst hab
      have r0 : wr.cell? ⟨b, off + k, none⟩ = some (.int .u8 x) := e0
      obtain ⟨aq, cq, rfl, _⟩ := owned_rowR hO.out
      have hszr : w.heap.size ≤ wr.heap.size := hB.out.size
      rcases List.eq_nil_or_concat rs with rfl | ⟨rs', r, hcat⟩
      · have HS : Hid (rngs (L.take (k + 1)) = [(x, x)]) := Lib.hid (HRS.out.trans rfl)
        clear HRS hpos hrow
        simp only [List.length_nil]
        go_wp2_with fail
        go_region
        go_wp2_with fail
        go_region_law (first | (refine step_append_lies _ (by rfl) _ _ _ (by rfl) w.heap.size 26 iR _ 2 2 Tryd.underlying22 hiR hzR0 hzR1 hzR2 rfl (by decide) _ _ _ (by rfl) (hO.out.alloc (.cells #[.int .u8 x, .int .u8 x] 26)) ⟨wr.heap.size, 0, none⟩ 1 1 [.int .u8 x, .int .u8 x] (by rfl) (by rfl) (World.news_of_block (cs := #[.int .u8 x, .int .u8 x]) (Blk.new wr 26 _)) (by simp [Value.oneCell']) (by omega) (by unfold maxLen; simp) (by simp) (by simp; omega) _ rfl ?_; intro g cap w1 hown1 hgrow _ _))
        all_goals
          have hf := own_finR (w := wr) (w1 := (wr.alloc (.cells #[.int .u8 x, .int .u8 x] 26)).drew.drew) (hO.out.alloc _) ((Lib.OthersKept.refl 26 none wr).alloc _).drew.drew ((Below.refl w.heap.size wr).alloc hszr _).drew.drew hszr hgrow
          have hL2 := Lib.hid (own_othersR hL.out (by decide) hf.1)
          have hB2 := Lib.hid (hB.out.trans hf.2)
          have hO2 := Lib.hid hown1
          clear hown1 hgrow hf hL hB hO e0 r0
          go_wp2
          go_roundw
          case rel => exact ⟨k + 1, by go_num, by omega, by rw [HS.out]; exact hO2, hL2, hB2⟩
          case measure => simp [intOf]; omega
      · rw [List.concat_eq_append] at hcat
        subst hcat
        obtain ⟨f, t⟩ := r
        have hk0 : 0 < k := hpos rs' (f, t) rfl
        have ht : t < 256 := (hsm (f, t) (by simp)).2
        have HS : Hid (rngs (L.take (k + 1)) = if t + 1 = x then rs' ++ [(f, x)] else rs' ++ [(f, t)] ++ [(x, x)]) := by
          refine Lib.hid (HRS.out.trans ?_)
          exact rstep_other rs' (f, t) x ht hx256 (by omega)
        have hrl : (rs' ++ [(f, t)]).length = rs'.length + 1 := by simp
        rw [hrl] at hO hlenP ⊢
        obtain ⟨g, cap, hsl⟩ := ownsRow_succ hO.out
        cases hsl
        have hc : wr.cell? ⟨g, rs'.length * 2 + 1, none⟩ = some (.int .u8 t) := (hO.out.cellAt (rs'.length * 2 + 1) (by omega)).trans (cellsR_last rs' (f, t))
        clear HRS hpos hsm
        have hw1 : IntKind.i64.wrap (t : Int) = (t : Int) := IntWalk.i64_in _ (by omega)
        have hw2 : IntKind.i64.wrap ((t : Int) + 1) = (t : Int) + 1 := IntWalk.i64_in _ (by omega)
        have hw3 : IntKind.i64.wrap (x : Int) = (x : Int) := IntWalk.i64_in _ (by omega)
        by_cases heq : t + 1 = x
        · have he1 : ((t : Int) + 1 == (x : Int)) = true := by simp; omega
          go_wp2_with fail
          go_region
          have hfg := hO.out.frozenAt (rs'.length * 2 + 1)
          rw [if_pos heq] at HS
          obtain ⟨hst, hgr⟩ := hO.out.stored (rs'.length * 2 + 1) (.int .u8 x)
          have hf := own_finR (w := wr) (w1 := wr) hO.out (Lib.OthersKept.refl 26 none wr) (Below.refl _ wr) hszr hgr
          have hL2 := Lib.hid (own_othersR hL.out (by decide) hf.1)
          have hB2 := Lib.hid (hB.out.trans hf.2)
          have hO2 := Lib.hid hst
          have hkk : (rs' ++ [(f, x)]).length = rs'.length + 1 := by simp
          have HKK := Lib.hid hkk
          clear hst hgr hf hL hB hkk hO e0
          go_wp2
          go_roundw
          case rel =>
            refine ⟨k + 1, by go_num, by omega, ?_, hL2, Lib.hid hB2.out.drew⟩
            rw [HS.out, HKK.out]
            have h := hO2.out
            rw [cellsR_set rs' (f, t) x] at h
            exact h
          case measure => simp [intOf]; omega
        · have he1 : ((t : Int) + 1 == (x : Int)) = false := by simp; omega
          go_wp2_with fail
          go_region
          rw [if_neg heq] at HS
          have hkk : (rs' ++ [(f, t)] ++ [(x, x)]).length = rs'.length + 1 + 1 := by simp
          have HKK := Lib.hid hkk
          clear hkk
          go_wp2_with fail
          go_region_law (first | (refine step_append_lies _ (by rfl) _ _ _ (by rfl) w.heap.size 26 iR _ 2 2 Tryd.underlying22 hiR hzR0 hzR1 hzR2 rfl (by decide) _ _ _ (by rfl) (hO.out.alloc (.cells #[.int .u8 x, .int .u8 x] 26)) ⟨wr.heap.size, 0, none⟩ 1 1 [.int .u8 x, .int .u8 x] (by rfl) (by rfl) (World.news_of_block (cs := #[.int .u8 x, .int .u8 x]) (Blk.new wr 26 _)) (by simp [Value.oneCell']) (by omega) (by unfold maxLen; omega) (by omega) (by simp; omega) _ rfl ?_; intro g2 cap2 w1 hown1 hgrow _ _))
          all_goals
            have hf := own_finR (w := wr) (w1 := (wr.alloc (.cells #[.int .u8 x, .int .u8 x] 26)).drew.drew) (hO.out.alloc _) ((Lib.OthersKept.refl 26 none wr).alloc _).drew.drew ((Below.refl w.heap.size wr).alloc hszr _).drew.drew hszr hgrow
            have hL2 := Lib.hid (own_othersR hL.out (by decide) hf.1)
            have hB2 := Lib.hid (hB.out.trans hf.2)
            have hO2 := Lib.hid hown1
            clear hown1 hgrow hf hL hB hO e0 r0 hc
            go_wp2
            go_roundw
            case rel =>
              refine ⟨k + 1, by go_num, by omega, ?_, hL2, hB2⟩
              rw [HS.out, HKK.out, cellsR_snoc]
              exact hO2.out
            case measure => simp [intOf]; omega
    · obtain rfl : k = L.length := by omega
      rw [List.take_length] at hO
      go_wp2
      go_ret
      exact ⟨u3, rfl, hO.out, hB.out⟩
end Go.Proofs.YtegmoeeeomjkgaaDoor
end
section
namespace Go.Proofs.YtegmoeeeomjkgaaDoor
open Go Go.RowKit Go.Shelf

attribute [local go_sem] Oper.semAt_some

theorem cell_new_l (W : World) (v : Value) (t : TypeId) : (W.alloc (.cells #[v] t)).cell? ⟨W.heap.size, 0, none⟩ = some v ∧ (W.alloc (.cells #[v] t)).frozen? ⟨W.heap.size, 0, none⟩ = false :=
  ⟨(Boxed.new W t v).cell, (Boxed.new W t v).frozen⟩
theorem cell_alloc_l {W : World} {a : Addr} {v : Value} (o : Obj) (h : W.cell? a = some v) : (W.alloc o).cell? a = some v := cell_kept h (World.grownBy_alloc W o none) (fun r e => by cases e)
theorem frozen_alloc_l {W : World} {a : Addr} {v : Value} (o : Obj) (h : W.cell? a = some v) (hf : W.frozen? a = false) : (W.alloc o).frozen? a = false := (frozen_kept h (World.grownBy_alloc W o none) (fun r e => by cases e)).trans hf

theorem set_same {W : World} {a : Addr} {u v : Value} (h : W.cell? a = some u) : (W.setCell a v).cell? a = some v := World.cell?_setCell_same _ _ _ h
theorem set_else {W : World} {b c : Nat} {u v : Value} (h : W.cell? ⟨b, 0, none⟩ = some u) (hne : c ≠ b) : (W.setCell ⟨c, 0, none⟩ v).cell? ⟨b, 0, none⟩ = some u :=
  (World.cell?_setCell_other W ⟨c, 0, none⟩ ⟨b, 0, none⟩ v (fun e => hne (by injection e))).trans h
theorem fset {W : World} {a b : Addr} {v : Value} (h : W.frozen? b = false) : (W.setCell a v).frozen? b = false := (World.frozen?_setCell W a b v).trans h

theorem eql_func (a : Value) (w : World) : (binOp .eql 55 (.func (.func 45) #[] #[a]) .nilFunc).run Tryd.prog w = .ok (.bool false) w := by
  kernel_rfl

theorem prefix_at {L pre : List Nat} {x : Nat} (h : pre ++ [x] <+: L) : L[pre.length]? = some x := by
  obtain ⟨t, rfl⟩ := h
  simp

set_option maxRecDepth 100000 in
set_option maxHeartbeats 4000000 in
theorem goes_in (n : Nat) (hn : 6 ≤ n) (s : BS) (Bn : Nat) (a : Option Addr) (cap : Nat) (lv : Int) (w : World) (hG : Glob w) (hBn : Blk w Bn 29 (cset s)) (hl : RowY w a (bytesL s)) :
    CallsIn Fence.wide n Tryd.prog 33 #[.func (.func 45) #[] #[.pointer (some ⟨Bn, 0, none⟩)], .slice a (bytesL s).length cap, .int .i64 lv] w fun e W' => e = .returned (.bool true) ∧ Below w.heap.size w W' := by
  have h1 : 1 ≤ n := by omega
  have h00 : 0 < w.heap.size := lt_of_cell (hG.1 0 (by decide))
  have hlenb := length_bytesL s
  have HE := eql_func
  have HL := Lib.hid hl
  clear hl
  refine callsIn_of_wp_marks Tryd.func33 rfl trivial ?_ rfl
  simp only [Tryd.ntmps33, List.size_toArray, List.length_cons, List.length_nil, Nat.reduceAdd, Nat.reduceSub, Array.replicate_succ, Array.replicate_zero, List.push_toArray, List.append_toArray, List.nil_append, List.cons_append]
  gi_wp2
  have c0 := cell_new_l w (.slice a (bytesL s).length cap) 23
  have c1 := cell_new_l (w.alloc (.cells #[.slice a (bytesL s).length cap] 23)) (.int .i64 lv) 3
  have c2 := cell_new_l ((w.alloc (.cells #[.slice a (bytesL s).length cap] 23)).alloc (.cells #[.int .i64 lv] 3)) (.bool false) 4
  have c3 := cell_new_l (((w.alloc (.cells #[.slice a (bytesL s).length cap] 23)).alloc (.cells #[.int .i64 lv] 3)).alloc (.cells #[.bool false] 4)) (.int .i64 0) 3
  simp only [World.size_alloc] at c1 c2 c3
  have k0 := cell_alloc_l (.cells #[.int .i64 0] 3) (cell_alloc_l (.cells #[.bool false] 4) (cell_alloc_l (.cells #[.int .i64 lv] 3) c0.1))
  have k1 := cell_alloc_l (.cells #[.int .i64 0] 3) (cell_alloc_l (.cells #[.bool false] 4) c1.1)
  have k2 := cell_alloc_l (.cells #[.int .i64 0] 3) c2.1
  have f2 := frozen_alloc_l (.cells #[.int .i64 0] 3) c2.1 c2.2
  have hB0 : Below w.heap.size w ((((w.alloc (.cells #[.slice a (bytesL s).length cap] 23)).alloc (.cells #[.int .i64 lv] 3)).alloc (.cells #[.bool false] 4)).alloc (.cells #[.int .i64 0] 3)) :=
    ((((Below.refl _ w).alloc (Nat.le_refl _) _).alloc (by simp) _).alloc (by simp; omega) _).alloc (by simp; omega) _
  have hsz : ((((w.alloc (.cells #[.slice a (bytesL s).length cap] 23)).alloc (.cells #[.int .i64 lv] 3)).alloc (.cells #[.bool false] 4)).alloc (.cells #[.int .i64 0] 3)).heap.size = w.heap.size + 4 := by simp
  obtain ⟨W0, hW0⟩ : ∃ W0, ((((w.alloc (.cells #[.slice a (bytesL s).length cap] 23)).alloc (.cells #[.int .i64 lv] 3)).alloc (.cells #[.bool false] 4)).alloc (.cells #[.int .i64 0] 3)) = W0 := ⟨_, rfl⟩
  rw [hW0] at k0 k1 k2 f2 c3 hB0 hsz ⊢
  clear hW0 c0 c1 c2
  refine wpIn_rangeFunc_ownG rfl h1 (gf := 45) (lb := #[.pointer (some ⟨Bn, 0, none⟩)]) rfl trivial (enters_of Tryd.func45 (by kernel_rfl) rfl)
    (bytes_stops (n - 1) (by omega) Bn s W0 (hBn.below hB0 hBn.lt) (hG.below (Nat.le_refl _) hB0).1) kpG_t kpG_b (Below.refl _ _) (fun _ => rfl)
    (fun pre W => (W.cell? ⟨w.heap.size, 0, none⟩ = some (.slice a (bytesL s).length cap) ∧ W.cell? ⟨w.heap.size + 1, 0, none⟩ = some (.int .i64 lv) ∧ W.cell? ⟨w.heap.size + 1 + 1, 0, none⟩ = some (.bool false) ∧ W.frozen? ⟨w.heap.size + 1 + 1, 0, none⟩ = false ∧ W.cell? ⟨w.heap.size + 1 + 1 + 1, 0, none⟩ = some (.int .i64 pre.length) ∧ W.frozen? ⟨w.heap.size + 1 + 1 + 1, 0, none⟩ = false) ∧ Below w.heap.size w W)
    (fun c pre W => (c = .ret ∧ ∃ r, W.cell? ⟨w.heap.size + 1 + 1, 0, none⟩ = some (.bool r) ∧ (pre.map Fin.val <+: bytesL s → r = true)) ∧ Below w.heap.size w W)
    (OwnFrom.and (Own.from (fun s A B row hs hg hr => ⟨cell_kept hs.1 hg hr, cell_kept hs.2.1 hg hr, cell_kept hs.2.2.1 hg hr, (frozen_kept hs.2.2.1 hg hr).trans hs.2.2.2.1, cell_kept hs.2.2.2.2.1 hg hr, (frozen_kept hs.2.2.2.2.1 hg hr).trans hs.2.2.2.2.2⟩) _) (ownFrom_below (Nat.le_refl _) (by omega)))
    (fun c => OwnFrom.and (Own.from (fun s A B row hs hg hr => ⟨hs.1, hs.2.imp fun r h => ⟨cell_kept h.1 hg hr, h.2⟩⟩) _) (ownFrom_below (Nat.le_refl _) (by omega)))
    ⟨⟨k0, k1, k2, f2, c3.1, c3.2⟩, hB0⟩
    (fun x => { tmps := #[.func (.func 45) #[] #[.pointer (some ⟨Bn, 0, none⟩)], .slice a (bytesL s).length cap, .int .i64 lv, undef, .pointer (some ⟨w.heap.size, 0, none⟩), .pointer (some ⟨w.heap.size + 1, 0, none⟩), .pointer (some ⟨w.heap.size + 1 + 1, 0, none⟩), .pointer (some ⟨w.heap.size + 1 + 1 + 1, 0, none⟩), .int .u8 ((x.val : Nat) : Int), .func (.func 45) #[] #[.pointer (some ⟨Bn, 0, none⟩)], .bool false, .func (.func 45) #[] #[.pointer (some ⟨Bn, 0, none⟩)], .int .u8 ((x.val : Nat) : Int), undef, undef, undef, undef, undef, undef, undef, undef, undef, undef, undef, undef, undef, undef, undef, undef, undef, undef, undef, undef, undef], defers := [] }) ?assign ?body ?done ?stop
  case assign =>
    intro l x W K hK
    gi_wp2
    exact hK
  case body =>
    rintro l pre x W ⟨⟨p0, p1, p2, q2, p3, q3⟩, hB⟩ hlt
    obtain ⟨x, hx⟩ := x
    dsimp only
    have HX := Lib.hid (List.getElem?_eq_getElem hlt)
    obtain ⟨y, hy⟩ : ∃ y, y = (bytesL s)[pre.length] := ⟨_, rfl⟩
    rw [← hy] at HX
    clear hy
    have hy256 : y < 256 := by
      have := List.mem_of_getElem? HX.out
      exact ((mem_bytesL s y).1 this).1
    obtain ⟨b, off, rfl, e0⟩ := HL.out _ _ HX.out
    have r0 : W.cell? ⟨b, off + pre.length, none⟩ = some (.int .u8 y) := (hB.cell (p := ⟨b, _, none⟩) (lt_of_cell e0)).trans e0
    clear e0
    have hge : decide ((bytesL s).length ≤ pre.length) = false := by simp; omega
    by_cases hxy : x = y
    · subst hxy
      by_cases hlv : (pre.length : Int) + 1 = lv
      · have hlv' : ((pre.length : Int) + 1 == lv) = true := by simpa using hlv
        gi_wp2
        exact ⟨((KeepsOthers.setCell _ _ _).trans (KeepsOthers.setCell _ _ _)).from _, ⟨rfl, true, set_same (set_else p2 (by omega)), fun _ => rfl⟩, (hB.setCell (p := ⟨w.heap.size + 1 + 1 + 1, 0, none⟩) (by simp; omega) _).setCell (p := ⟨w.heap.size + 1 + 1, 0, none⟩) (by simp; omega) _⟩
      · have hlv' : ((pre.length : Int) + 1 == lv) = false := by simpa using hlv
        gi_wp2
        refine ⟨(KeepsOthers.setCell _ _ _).from _, KpG.below ((Below.refl w.heap.size W).setCell (p := ⟨w.heap.size + 1 + 1 + 1, 0, none⟩) (by simp; omega) _) h00, ⟨set_else p0 (by omega), set_else p1 (by omega), set_else p2 (by omega), fset q2, ?_, fset q3⟩, hB.setCell (p := ⟨w.heap.size + 1 + 1 + 1, 0, none⟩) (by simp; omega) _⟩
        have hpl : (((pre ++ [(⟨x, hx⟩ : Fin 256)]).length : Nat) : Int) = (pre.length : Int) + 1 := by simp
        rw [hpl]
        exact World.cell?_setCell_same' _ _ _ (by rw [p3]; rfl)
    · have hne : ((x : Int) == (y : Int)) = false := by simpa using fun h => hxy (by omega)
      gi_wp2
      refine ⟨(KeepsOthers.setCell _ _ _).from _, ⟨rfl, false, World.cell?_setCell_same' _ _ _ (by rw [p2]; rfl), fun h => ?_⟩, hB.setCell (p := ⟨w.heap.size + 1 + 1, 0, none⟩) (by simp; omega) _⟩
      rw [List.map_append] at h
      have h2 := prefix_at h
      rw [List.length_map, HX.out] at h2
      exact absurd (Option.some.inj h2).symm hxy
  case done =>
    rintro D ys W hD hys ⟨⟨p0, p1, p2, q2, p3, q3⟩, hB⟩ hK
    have hys2 : ys.length = (bytesL s).length := by rw [← show ys.map Fin.val = bytesL s from hys]; simp
    rw [hys2] at p3
    gi_wp2
    have hK' := (KeepsOthers.setCell W ⟨w.heap.size + 1 + 1, 0, none⟩ (.bool true)).same D _ hK rfl
    refine ⟨by simp, .inl ⟨_, _, rfl, run_takeDeferred hK', ?_⟩⟩
    have hc5 := cell_kept (World.cell?_setCell_same' W ⟨w.heap.size + 1 + 1, 0, none⟩ (.bool true) (by rw [p2]; rfl)) (grownBy_putObj' _ D (.deferred none)) (fun r e => by cases e; exact ⟨_, hK', rfl⟩)
    refine ⟨.bool true, ?_, rfl, (hB.setCell (p := ⟨w.heap.size + 1 + 1, 0, none⟩) (by simp; omega) _).trans (belowK_b (w := w) (Nat.le_refl _) _ D _ _ (by omega) hK' rfl rfl)⟩
    simp [results, Tryd.f33, go_sem, hc5]
  case stop =>
    rintro D c pre W hD hpre ⟨⟨rfl, r, hr, himp⟩, hB⟩ hK
    obtain rfl := himp hpre
    gi_wp2
    refine ⟨by simp, .inl ⟨_, _, rfl, run_takeDeferred hK, ?_⟩⟩
    have hc5 := cell_kept hr (grownBy_putObj' _ D (.deferred none)) (fun r e => by cases e; exact ⟨_, hK, rfl⟩)
    refine ⟨.bool true, ?_, rfl, hB.trans (belowK_b (w := w) (Nat.le_refl _) W D _ _ (by omega) hK rfl rfl)⟩
    simp [results, Tryd.f33, go_sem, hc5]

/-- What Least tells of a set's bytes. -/
def leastV : List Nat → Value
  | [] => .tuple #[.int .u8 0, .bool false]
  | x :: _ => .tuple #[.int .u8 x, .bool true]

set_option maxRecDepth 100000 in
set_option maxHeartbeats 4000000 in
theorem least_in (n : Nat) (hn : 6 ≤ n) (s : BS) (w : World) (hG : Glob w) :
    CallsIn Fence.wide n Tryd.prog 22 #[vset s] w fun e W' => e = .returned (leastV (bytesL s)) ∧ Below w.heap.size w W' := by
  have h1 : 1 ≤ n := by omega
  have h00 : 0 < w.heap.size := lt_of_cell (hG.1 0 (by decide))
  unfold vset
  refine callsIn_of_wp_marks Tryd.func22 rfl trivial ?_ rfl
  simp only [Tryd.ntmps22, List.size_toArray, List.length_cons, List.length_nil, Nat.reduceAdd, Nat.reduceSub, Array.replicate_succ, Array.replicate_zero, List.push_toArray, List.append_toArray, List.nil_append, List.cons_append]
  gi_wp2_with (refine ⟨trivial, ?_⟩; gi_at_call 32; refine (bytes_in (n - 1) s _).mono ?_; rintro e w' ⟨rfl, rfl⟩)
  have bT := Blk.new (((w.alloc (.cells #[.int .u64 (wdI s 0), .int .u64 (wdI s 1), .int .u64 (wdI s 2), .int .u64 (wdI s 3)] 29)).alloc (.cells #[.int .u8 0] 5)).alloc (.cells #[.bool false] 4)) 29 (cset s)
  have c1 := cell_new_l (w.alloc (.cells #[.int .u64 (wdI s 0), .int .u64 (wdI s 1), .int .u64 (wdI s 2), .int .u64 (wdI s 3)] 29)) (.int .u8 0) 5
  have c2 := cell_new_l ((w.alloc (.cells #[.int .u64 (wdI s 0), .int .u64 (wdI s 1), .int .u64 (wdI s 2), .int .u64 (wdI s 3)] 29)).alloc (.cells #[.int .u8 0] 5)) (.bool false) 4
  simp only [World.size_alloc] at bT c1 c2
  have k1 := cell_alloc_l (.cells (cset s) 29) (cell_alloc_l (.cells #[.bool false] 4) c1.1)
  have f1 := frozen_alloc_l (.cells (cset s) 29) (cell_alloc_l (.cells #[.bool false] 4) c1.1) (frozen_alloc_l (.cells #[.bool false] 4) c1.1 c1.2)
  have k2 := cell_alloc_l (.cells (cset s) 29) c2.1
  have f2 := frozen_alloc_l (.cells (cset s) 29) c2.1 c2.2
  have hB0 : Below w.heap.size w ((((w.alloc (.cells #[.int .u64 (wdI s 0), .int .u64 (wdI s 1), .int .u64 (wdI s 2), .int .u64 (wdI s 3)] 29)).alloc (.cells #[.int .u8 0] 5)).alloc (.cells #[.bool false] 4)).alloc (.cells (cset s) 29)) :=
    ((((Below.refl _ w).alloc (Nat.le_refl _) _).alloc (by simp) _).alloc (by simp; omega) _).alloc (by simp; omega) _
  have hsz : ((((w.alloc (.cells #[.int .u64 (wdI s 0), .int .u64 (wdI s 1), .int .u64 (wdI s 2), .int .u64 (wdI s 3)] 29)).alloc (.cells #[.int .u8 0] 5)).alloc (.cells #[.bool false] 4)).alloc (.cells (cset s) 29)).heap.size = w.heap.size + 4 := by simp
  obtain ⟨W0, hW0⟩ : ∃ W0, ((((w.alloc (.cells #[.int .u64 (wdI s 0), .int .u64 (wdI s 1), .int .u64 (wdI s 2), .int .u64 (wdI s 3)] 29)).alloc (.cells #[.int .u8 0] 5)).alloc (.cells #[.bool false] 4)).alloc (.cells (cset s) 29)) = W0 := ⟨_, rfl⟩
  rw [hW0] at bT k1 f1 k2 f2 hB0 hsz ⊢
  clear hW0 c1 c2
  refine wpIn_rangeFunc_ownG rfl h1 (gf := 45) (lb := #[.pointer (some ⟨w.heap.size + 1 + 1 + 1, 0, none⟩)]) rfl trivial (enters_of Tryd.func45 (by kernel_rfl) rfl)
    (bytes_stops (n - 1) (by omega) (w.heap.size + 1 + 1 + 1) s W0 bT (hG.below (Nat.le_refl _) hB0).1) kpG_t kpG_b (Below.refl _ _) (fun _ => rfl)
    (fun pre W => (pre = [] ∧ W.cell? ⟨w.heap.size + 1, 0, none⟩ = some (.int .u8 0) ∧ W.frozen? ⟨w.heap.size + 1, 0, none⟩ = false ∧ W.cell? ⟨w.heap.size + 1 + 1, 0, none⟩ = some (.bool false) ∧ W.frozen? ⟨w.heap.size + 1 + 1, 0, none⟩ = false) ∧ Below w.heap.size w W)
    (fun c pre W => (c = .ret ∧ ∃ x : Fin 256, pre = [x] ∧ W.cell? ⟨w.heap.size + 1, 0, none⟩ = some (.int .u8 ((x.val : Nat) : Int)) ∧ W.cell? ⟨w.heap.size + 1 + 1, 0, none⟩ = some (.bool true)) ∧ Below w.heap.size w W)
    (OwnFrom.and (Own.from (fun s A B row hs hg hr => ⟨hs.1, cell_kept hs.2.1 hg hr, (frozen_kept hs.2.1 hg hr).trans hs.2.2.1, cell_kept hs.2.2.2.1 hg hr, (frozen_kept hs.2.2.2.1 hg hr).trans hs.2.2.2.2⟩) _) (ownFrom_below (Nat.le_refl _) (by omega)))
    (fun c => OwnFrom.and (Own.from (fun s A B row hs hg hr => ⟨hs.1, hs.2.imp fun x h => ⟨h.1, cell_kept h.2.1 hg hr, cell_kept h.2.2 hg hr⟩⟩) _) (ownFrom_below (Nat.le_refl _) (by omega)))
    ⟨⟨rfl, k1, f1, k2, f2⟩, hB0⟩
    (fun x => { tmps := #[.agg #[.int .u64 (wdI s 0), .int .u64 (wdI s 1), .int .u64 (wdI s 2), .int .u64 (wdI s 3)], .pointer (some ⟨w.heap.size, 0, none⟩), .pointer (some ⟨w.heap.size + 1, 0, none⟩), .pointer (some ⟨w.heap.size + 1 + 1, 0, none⟩), .int .u8 ((x.val : Nat) : Int), .agg #[.int .u64 (wdI s 0), .int .u64 (wdI s 1), .int .u64 (wdI s 2), .int .u64 (wdI s 3)], .func (.func 45) #[] #[.pointer (some ⟨w.heap.size + 1 + 1 + 1, 0, none⟩)], .int .u8 ((x.val : Nat) : Int), undef], defers := [] }) ?assign ?body ?done ?stop
  case assign =>
    intro l x W K hK
    gi_wp2
    exact hK
  case body =>
    rintro l pre x W ⟨⟨rfl, p1, q1, p2, q2⟩, hB⟩ hlt
    gi_wp2
    exact ⟨((KeepsOthers.setCell _ _ _).trans (KeepsOthers.setCell _ _ _)).from _, ⟨rfl, x, rfl, set_else (set_same p1) (by omega), set_same (set_else p2 (by omega))⟩, (hB.setCell (p := ⟨w.heap.size + 1, 0, none⟩) (by simp) _).setCell (p := ⟨w.heap.size + 1 + 1, 0, none⟩) (by simp; omega) _⟩
  case done =>
    rintro D ys W hD hys ⟨⟨rfl, p1, q1, p2, q2⟩, hB⟩ hK
    have hys2 := Lib.hid (show leastV (bytesL s) = .tuple #[.int .u8 0, .bool false] by rw [← (show ([] : List (Fin 256)).map Fin.val = bytesL s from hys)]; rfl)
    gi_wp2
    have hK' := (KeepsOthers.setCell (W.setCell ⟨w.heap.size + 1, 0, none⟩ (.int .u8 0)) ⟨w.heap.size + 1 + 1, 0, none⟩ (.bool false)).same D _ ((KeepsOthers.setCell W ⟨w.heap.size + 1, 0, none⟩ (.int .u8 0)).same D _ hK rfl) rfl
    refine ⟨by simp, .inl ⟨_, _, rfl, run_takeDeferred hK', ?_⟩⟩
    have hc1 : ((W.setCell ⟨w.heap.size + 1, 0, none⟩ (.int .u8 0)).setCell ⟨w.heap.size + 1 + 1, 0, none⟩ (.bool false)).cell? ⟨w.heap.size + 1, 0, none⟩ = some (.int .u8 0) := by
      exact set_else (set_same p1) (by omega)
    have hc2 : ((W.setCell ⟨w.heap.size + 1, 0, none⟩ (.int .u8 0)).setCell ⟨w.heap.size + 1 + 1, 0, none⟩ (.bool false)).cell? ⟨w.heap.size + 1 + 1, 0, none⟩ = some (.bool false) := set_same (set_else p2 (by omega))
    have hc5 := cell_kept hc1 (grownBy_putObj' _ D (.deferred none)) (fun r e => by cases e; exact ⟨_, hK', rfl⟩)
    have hc6 := cell_kept hc2 (grownBy_putObj' _ D (.deferred none)) (fun r e => by cases e; exact ⟨_, hK', rfl⟩)
    refine ⟨.tuple #[.int .u8 0, .bool false], ?_, by rw [hys2.out], ((hB.setCell (p := ⟨w.heap.size + 1, 0, none⟩) (by simp) _).setCell (p := ⟨w.heap.size + 1 + 1, 0, none⟩) (by simp; omega) _).trans (belowK_b (w := w) (Nat.le_refl _) _ D _ _ (by omega) hK' rfl rfl)⟩
    simp [results, Tryd.f22, go_sem, hc5, hc6]
  case stop =>
    rintro D c pre W hD hpre ⟨⟨rfl, x, rfl, hr1, hr2⟩, hB⟩ hK
    have hb : ∃ t, bytesL s = x.val :: t := by
      obtain ⟨t, ht⟩ := (show [x].map Fin.val <+: bytesL s from hpre)
      exact ⟨t, ht.symm⟩
    have hys2 := Lib.hid (show leastV (bytesL s) = .tuple #[.int .u8 ((x.val : Nat) : Int), .bool true] by obtain ⟨t, ht⟩ := hb; rw [ht]; rfl)
    gi_wp2
    refine ⟨by simp, .inl ⟨_, _, rfl, run_takeDeferred hK, ?_⟩⟩
    have hc5 := cell_kept hr1 (grownBy_putObj' _ D (.deferred none)) (fun r e => by cases e; exact ⟨_, hK, rfl⟩)
    have hc6 := cell_kept hr2 (grownBy_putObj' _ D (.deferred none)) (fun r e => by cases e; exact ⟨_, hK, rfl⟩)
    refine ⟨.tuple #[.int .u8 ((x.val : Nat) : Int), .bool true], ?_, by rw [hys2.out], hB.trans (belowK_b (w := w) (Nat.le_refl _) W D _ _ (by omega) hK rfl rfl)⟩
    simp [results, Tryd.f22, go_sem, hc5, hc6]
end Go.Proofs.YtegmoeeeomjkgaaDoor
end
section
namespace Go.Proofs.YtegmoeeeomjkgaaDoor
open Go Go.RowKit Go.Shelf

theorem Tryd.info29 : (Tryd.prog.info? 29).map (fun i => (i.zero, i.size, i.bytes)) = some (some (.agg #[.int .u64 0, .int .u64 0, .int .u64 0, .int .u64 0]), 4, 32) := by kernel_rfl

/-- The cells of sets. -/
def cellsB (l : List BS) : List Value := l.flatMap fun x => [.int .u64 (wdI x 0), .int .u64 (wdI x 1), .int .u64 (wdI x 2), .int .u64 (wdI x 3)]
theorem cellsB_length (l : List BS) : (cellsB l).length = l.length * 4 := by
  induction l with
  | nil => rfl
  | cons r rs ih => simp [cellsB] at ih ⊢; omega
theorem cellsB_at (l : List BS) : ∀ (i : Nat) (x : BS), l[i]? = some x → (cellsB l)[i * 4]? = some (.int .u64 (wdI x 0)) ∧ (cellsB l)[i * 4 + 1]? = some (.int .u64 (wdI x 1)) ∧ (cellsB l)[i * 4 + 2]? = some (.int .u64 (wdI x 2)) ∧ (cellsB l)[i * 4 + 3]? = some (.int .u64 (wdI x 3)) := by
  induction l with
  | nil => intro i x hx; simp at hx
  | cons r rs ih =>
    intro i x hx
    have hc : cellsB (r :: rs) = .int .u64 (wdI r 0) :: .int .u64 (wdI r 1) :: .int .u64 (wdI r 2) :: .int .u64 (wdI r 3) :: cellsB rs := by simp [cellsB]
    rw [hc]
    cases i with
    | zero => simp at hx; subst hx; exact ⟨rfl, rfl, rfl, rfl⟩
    | succ i =>
      have h := ih i x (by simpa using hx)
      have e1 : (i + 1) * 4 = i * 4 + 1 + 1 + 1 + 1 := by omega
      rw [e1]
      simpa using h
theorem one_B (l : List BS) : ∀ u ∈ cellsB l, u.oneCell' = true := by
  intro u hu
  unfold cellsB at hu
  obtain ⟨x, _, hx⟩ := List.mem_flatMap.1 hu
  simp at hx
  rcases hx with rfl | rfl | rfl | rfl <;> rfl

theorem news_B {w : World} {ad : Addr} {l : List BS} (hd : RowB w (some ad) l) : ∀ j u, (cellsB l)[j]? = some u → w.cell? (ad.add j) = some u := by
  intro j u hu
  have hj : j < l.length * 4 := by
    have := (List.getElem?_eq_some_iff.1 hu).1
    rwa [cellsB_length] at this
  have hi : j / 4 < l.length := by omega
  obtain ⟨b, off, hab, h0, h1, h2, h3⟩ := hd (j / 4) l[j / 4] (List.getElem?_eq_getElem hi)
  cases hab
  obtain ⟨k0, k1, k2, k3⟩ := cellsB_at l (j / 4) l[j / 4] (List.getElem?_eq_getElem hi)
  rw [add_zero_off]
  rcases (by omega : j % 4 = 0 ∨ j % 4 = 1 ∨ j % 4 = 2 ∨ j % 4 = 3) with h | h | h | h
  · have e : j = j / 4 * 4 := by omega
    rw [← e] at h0 k0
    rw [h0, ← k0, hu]
  · have e : j = j / 4 * 4 + 1 := by omega
    have e2 : off + j / 4 * 4 + 1 = off + j := by omega
    rw [e2] at h1
    rw [← e] at k1
    rw [h1, ← k1, hu]
  · have e : j = j / 4 * 4 + 2 := by omega
    have e2 : off + j / 4 * 4 + 2 = off + j := by omega
    rw [e2] at h2
    rw [← e] at k2
    rw [h2, ← k2, hu]
  · have e : j = j / 4 * 4 + 3 := by omega
    have e2 : off + j / 4 * 4 + 3 = off + j := by omega
    rw [e2] at h3
    rw [← e] at k3
    rw [h3, ← k3, hu]

theorem Sent.rowB {B n g c : Nat} {last : List Value} {l : List BS} {w : World} (h : Sent B 29 4 (cellsB l) last n g c w) (hn : n = l.length) : RowB w (some ⟨g, 0, none⟩) l := by
  intro i x hx
  have hi := (List.getElem?_eq_some_iff.1 hx).1
  obtain ⟨k0, k1, k2, k3⟩ := cellsB_at l i x hx
  refine ⟨g, 0, rfl, ?_, ?_, ?_, ?_⟩
  · rw [Nat.zero_add, h.cells _ (by omega), List.getElem?_append_left (by rw [cellsB_length]; omega), k0]
  · rw [Nat.zero_add, h.cells _ (by omega), List.getElem?_append_left (by rw [cellsB_length]; omega), k1]
  · rw [Nat.zero_add, h.cells _ (by omega), List.getElem?_append_left (by rw [cellsB_length]; omega), k2]
  · rw [Nat.zero_add, h.cells _ (by omega), List.getElem?_append_left (by rw [cellsB_length]; omega), k3]
theorem row_none_B {w : World} {l : List BS} (h : RowB w none l) : l = [] := by
  cases l with
  | nil => rfl
  | cons x r => obtain ⟨b, off, e, _⟩ := h 0 x rfl; cases e
theorem RowB.below {w w' : World} {a : Option Addr} {l : List BS} {n : Nat} (h : RowB w a l) (hB : Below n w w') (hn : w.heap.size ≤ n) : RowB w' a l := by
  intro i x hx
  obtain ⟨b, off, e, h0, h1, h2, h3⟩ := h i x hx
  have := lt_of_cell h0
  exact ⟨b, off, e, (hB.cell (p := ⟨b, _, none⟩) (show b < n by omega)).trans h0, (hB.cell (p := ⟨b, _, none⟩) (show b < n by omega)).trans h1, (hB.cell (p := ⟨b, _, none⟩) (show b < n by omega)).trans h2, (hB.cell (p := ⟨b, _, none⟩) (show b < n by omega)).trans h3⟩

theorem cell_four_new (w : World) (x y z u : Value) (t : TypeId) : ∀ j v, [x, y, z, u][j]? = some v → (w.alloc (.cells #[x, y, z, u] t)).cell? ((⟨w.heap.size, 0, none⟩ : Addr).add j) = some v := by
  intro j v hj
  have hb := Blk.new w t #[x, y, z, u]
  rw [add_zero_off, Nat.zero_add, hb.cell j]
  rw [← hj]; simp

theorem goes_any (s : BS) (Bn : Nat) (a : Option Addr) (cap : Nat) (lv : Int) (w : World) (hG : Glob w) (hBn : Blk w Bn 29 (cset s)) (hl : RowY w a (bytesL s)) :
    Calls Tryd.prog 33 #[.func (.func 45) #[] #[.pointer (some ⟨Bn, 0, none⟩)], .slice a (bytesL s).length cap, .int .i64 lv] w fun e W' => e = .returned (.bool true) ∧ Below w.heap.size w W' :=
  callsIn_wide.1 (goes_in 6 (Nat.le_refl _) s Bn a cap lv w hG hBn hl)
theorem least_any (s : BS) (w : World) (hG : Glob w) : Calls Tryd.prog 22 #[vset s] w fun e W' => e = .returned (leastV (bytesL s)) ∧ Below w.heap.size w W' :=
  callsIn_wide.1 (least_in 6 (Nat.le_refl _) s w hG)
theorem bytes_at (s : BS) (w : World) : Calls Tryd.prog 32 #[vset s] w fun e w' => e = .returned (.func (.func 45) #[] #[.pointer (some ⟨w.heap.size, 0, none⟩)]) ∧ Blk w' w.heap.size 29 (cset s) ∧ Below w.heap.size w w' :=
  (callsIn_wide.1 (bytes_in 6 s w)).mono fun _ _ ⟨a, b⟩ => ⟨a, by rw [b]; exact Blk.new w 29 _, by rw [b]; exact (Below.refl _ w).alloc (Nat.le_refl _) _⟩

theorem least_cases (L : List Nat) (h : ∀ x ∈ L, x < 256) : ∃ (c : Nat) (ok : Bool), leastV L = .tuple #[.int .u8 c, .bool ok] ∧ c < 256 ∧ ((L = [] ∧ c = 0 ∧ ok = false) ∨ (∃ t, L = c :: t ∧ ok = true)) := by
  cases L with
  | nil => exact ⟨0, false, rfl, by omega, .inl ⟨rfl, rfl, rfl⟩⟩
  | cons x t => exact ⟨x, true, rfl, h x (by simp), .inr ⟨t, rfl, rfl⟩⟩
end Go.Proofs.YtegmoeeeomjkgaaDoor
end
section
namespace Go.Proofs.YtegmoeeeomjkgaaDoor
open Go.RowKit Go.Deep Go.ChangeShapes Go.WideShapes

theorem cellsOf27 : Tryd.prog.cellsOf 27 = 1 := by kernel_rfl

variable {H : Type} {enc : TypeId × Value → H} {w : World} {base : Nat} {spare : Nat → Bool} {held : Bool}

theorem open_u64 {fuel : Nat} {v : Value} {x : DataW H × List MemPlace} (h : DataW.trod enc Tryd.prog w base spare held fuel 27 [v] = some x) : ∃ n : Int, v = .int .u64 n ∧ 0 ≤ n ∧ n < 18446744073709551616 := by
  obtain ⟨n, e, _, hw⟩ := DataW.trod_int Tryd.underlying27 h
  simp at e
  exact ⟨n, e, u64_rng hw⟩

set_option maxRecDepth 100000 in
/-- A set that reads as data. -/
theorem st_open {fuel : Nat} {cs : List Value} {x : DataW H × List MemPlace} (h : DataW.trod enc Tryd.prog w base spare held fuel 29 cs = some x) :
    ∃ s : BS, cs = [.int .u64 (wdI s 0), .int .u64 (wdI s 1), .int .u64 (wdI s 2), .int .u64 (wdI s 3)] := by
  obtain ⟨_, _, _, _, hl, _⟩ := DataW.trod_array Tryd.underlying29 h
  rw [cellsOf29] at hl
  match cs, hl with
  | [a, b, c, d], _ =>
    obtain ⟨_, _, _, _, n, _, h0, h1, h2, h3⟩ := trod_array4 Tryd.underlying29 cellsOf27 h
    obtain ⟨a, rfl, ra⟩ := open_u64 h0
    obtain ⟨b, rfl, rb⟩ := open_u64 h1
    obtain ⟨c, rfl, rc⟩ := open_u64 h2
    obtain ⟨d, rfl, rd⟩ := open_u64 h3
    obtain ⟨s, rfl, rfl, rfl, rfl⟩ := set_of_words a b c d ra rb rc rd
    exact ⟨s, rfl⟩

/-- A slice of sets that reads as data. -/
theorem sts_open {fuel : Nat} {a : Option Addr} {len cap : Nat} {x : DataW H × List MemPlace} (h : DataW.trod enc Tryd.prog w base spare held fuel 43 [.slice a len cap] = some x) :
    ∃ d : List BS, d.length = len ∧ RowB w a d ∧ len ≤ cap ∧ (a = none → cap = 0) := by
  rcases open_slice Tryd.underlying43 h with ⟨h0, _⟩ | ⟨a', len', cap', m, n, D, Pl, hcs, _, hl, hm, hmm, _, hel⟩
  · simp at h0
    obtain ⟨rfl, rfl, rfl⟩ := h0
    exact ⟨[], rfl, fun i x hx => by simp at hx, Nat.le_refl _, fun _ => rfl⟩
  · simp at hcs
    obtain ⟨rfl, rfl, rfl⟩ := hcs
    have hlm : len ≤ m := by rw [hmm]; split <;> omega
    have hall : ∀ i, i < len → ∃ s : BS, w.cell? (a'.add (i * 4)) = some (.int .u64 (wdI s 0)) ∧ w.cell? ((a'.add (i * 4)).add 1) = some (.int .u64 (wdI s 1)) ∧ w.cell? ((a'.add (i * 4)).add 2) = some (.int .u64 (wdI s 2)) ∧ w.cell? ((a'.add (i * 4)).add 3) = some (.int .u64 (wdI s 3)) := by
      intro i hi
      obtain ⟨cs', h1, h2⟩ := hel i (by omega)
      obtain ⟨s, rfl⟩ := st_open h2
      rw [cellsOf29] at h1
      exact ⟨s, cells_four h1⟩
    haveI : Inhabited BS := ⟨0#256⟩
    obtain ⟨f, hf⟩ := choose_lt hall
    refine ⟨(List.range len).map f, by simp, ?_, hl, fun e => by cases e⟩
    intro i x hx
    have hi : i < len := by
      have := (List.getElem?_eq_some_iff.1 hx).1
      simpa using this
    have hx' : f i = x := by
      rw [List.getElem?_map, List.getElem?_range hi] at hx
      simpa using hx
    obtain ⟨q0, q1, q2, q3⟩ := hf i hi
    rw [hx'] at q0 q1 q2 q3
    have hspot : a'.spot = none := by
      have := (hf 0 (by omega)).1
      have e0 : a'.add (0 * 4) = a' := rfl
      rw [e0] at this
      exact World.cell?_spot this
    obtain ⟨b, off, spot⟩ := a'
    simp only at hspot
    subst hspot
    rw [add_zero_off] at q0
    rw [add_add0, add_zero_off] at q1 q2 q3
    exact ⟨b, off, rfl, q0, by rw [Nat.add_assoc]; exact q1, by rw [Nat.add_assoc]; exact q2, by rw [Nat.add_assoc]; exact q3⟩
end Go.Proofs.YtegmoeeeomjkgaaDoor
end
section
namespace Go.Proofs.YtegmoeeeomjkgaaDoor
open Go Go.RowKit

theorem Tryd.info3 : (Tryd.prog.info? 3).map (fun i => (i.zero, i.size, i.bytes)) = some (some (.int .i64 0), 1, 8) := by kernel_rfl

/-- Are two bytes alike to each of the sets? -/
def sameB (l : List BS) (b f : Nat) : Bool := l.all fun s => s.getLsbD b == s.getLsbD f
/-- The last place below i whose number meets p. -/
def atU (p : Nat → Bool) (F : List Nat) : Nat → Option Nat
  | 0 => none
  | i + 1 => if p (F[i]?.getD 0) then some i else atU p F i
theorem atU_lt (p : Nat → Bool) (F : List Nat) : ∀ i k, atU p F i = some k → k < i := by
  intro i
  induction i with
  | zero => intro k h; cases h
  | succ i ih =>
    intro k h
    unfold atU at h
    split at h
    · cases h; omega
    · have := ih k h; omega

/-- The document's parts and their first bytes, b bytes having been gone over. -/
def splitTo (l : List BS) : Nat → List BS × List Nat
  | 0 => ([], [])
  | b + 1 => match atU (sameB l b) (splitTo l b).2 (splitTo l b).2.length with
    | none => ((splitTo l b).1 ++ [withB 0#256 b], (splitTo l b).2 ++ [b])
    | some i => ((splitTo l b).1.set i (withB ((splitTo l b).1[i]?.getD 0#256) b), (splitTo l b).2)
def splitL (l : List BS) : List BS := (splitTo l 256).1

theorem splitTo_len (l : List BS) : ∀ b, (splitTo l b).1.length = (splitTo l b).2.length ∧ (splitTo l b).2.length ≤ b ∧ ∀ f ∈ (splitTo l b).2, f < b := by
  intro b
  induction b with
  | zero => exact ⟨rfl, Nat.le_refl _, fun f h => by cases h⟩
  | succ b ih =>
    obtain ⟨h1, h2, h3⟩ := ih
    unfold splitTo
    split
    · refine ⟨by simp [h1], by simp; omega, fun f hf => ?_⟩
      simp at hf
      rcases hf with hf | rfl
      · have := h3 f hf; omega
      · omega
    · refine ⟨by simp [h1], ?_, fun f hf => ?_⟩
      · show (splitTo l b).2.length ≤ b + 1
        omega
      · have := h3 f hf
        omega

def intV (n : Nat) : Value := .int .i64 n

/-- What an append to a row of its own leaves. -/
theorem own_finE {e size : Nat} {w w1 w' : World} {n₀ : Nat} {v : Value} {n : Nat} {xs : List Value} (hown : w1.ownsRow n₀ e size v n xs) (hk : Lib.OthersKept e none w w1) (hB : Below n₀ w w1) (hn : n₀ ≤ w.heap.size) (hg : w1.grownBy w' v.ownBlock) :
    Lib.OthersKept e none w w' ∧ Below n₀ w w' := by
  refine ⟨hk.grown hg (fun g e => Lib.ownsRow_kind hown g e), hB.grown hg (Nat.le_trans hn hB.size) fun j ej => ?_⟩
  rcases hown.2 with ⟨rfl, _⟩ | ⟨g, cap, cur, rfl, hb, _⟩
  · cases ej
  · obtain rfl : g = j := by simpa [Value.ownBlock] using ej
    exact hb
theorem own_othersE {e' : Nat} {W W' : World} {n₀ size n : Nat} {e : TypeId} {v : Value} {xs : List Value} (h : W.ownsRow n₀ e size v n xs) (he : e ≠ e') (hk : Lib.OthersKept e' none W W') : W'.ownsRow n₀ e size v n xs := by
  refine ⟨h.1, ?_⟩
  rcases h.2 with h1 | ⟨g, cap, cur, h1, h2, h3, h4⟩
  · exact .inl h1
  · exact .inr ⟨g, cap, cur, h1, h2, hk g _ h3 (by simp) (fun c fz e' => by cases e'; exact he rfl), h4⟩

theorem owned_rowB {w : World} {n₀ : Nat} {v : Value} {l : List BS} (h : w.ownsRow n₀ 29 4 v l.length (cellsB l)) : ∃ a cap, v = .slice a l.length cap ∧ RowB w a l := by
  rcases h.2 with ⟨rfl, h0⟩ | ⟨g, cap, cur, rfl, _⟩
  · have : l = [] := List.length_eq_zero_iff.1 h0
    subst this
    exact ⟨none, 0, rfl, fun i x hx => by simp at hx⟩
  · refine ⟨_, cap, rfl, fun i x hx => ?_⟩
    have hi := (List.getElem?_eq_some_iff.1 hx).1
    obtain ⟨k0, k1, k2, k3⟩ := cellsB_at l i x hx
    refine ⟨g, 0, rfl, ?_, ?_, ?_, ?_⟩
    · rw [Nat.zero_add, h.cellAt (i * 4) (by omega)]; exact k0
    · rw [Nat.zero_add, h.cellAt (i * 4 + 1) (by omega)]; exact k1
    · rw [Nat.zero_add, h.cellAt (i * 4 + 2) (by omega)]; exact k2
    · rw [Nat.zero_add, h.cellAt (i * 4 + 3) (by omega)]; exact k3
/-- Numbers as they lie behind a slice. -/
def RowN (w : World) (a : Option Addr) (l : List Nat) : Prop :=
  ∀ (i : Nat) (x : Nat), l[i]? = some x → ∃ b off, a = some ⟨b, off, none⟩ ∧ w.cell? ⟨b, off + i, none⟩ = some (.int .i64 x)
theorem owned_rowN {w : World} {n₀ : Nat} {v : Value} {l : List Nat} (h : w.ownsRow n₀ 3 1 v l.length (l.map intV)) : ∃ a cap, v = .slice a l.length cap ∧ RowN w a l := by
  rcases h.2 with ⟨rfl, h0⟩ | ⟨g, cap, cur, rfl, _⟩
  · have : l = [] := List.length_eq_zero_iff.1 h0
    subst this
    exact ⟨none, 0, rfl, fun i x hx => by simp at hx⟩
  · refine ⟨_, cap, rfl, fun i x hx => ?_⟩
    have hi := (List.getElem?_eq_some_iff.1 hx).1
    refine ⟨g, 0, rfl, ?_⟩
    rw [Nat.zero_add, h.cellAt i (by omega), List.getElem?_map, hx]
    rfl
theorem cellsB_snoc (l : List BS) (x : BS) : cellsB (l ++ [x]) = cellsB l ++ [.int .u64 (wdI x 0), .int .u64 (wdI x 1), .int .u64 (wdI x 2), .int .u64 (wdI x 3)] := by simp [cellsB]

theorem cellsB_set (l : List BS) : ∀ (i : Nat) (x : BS), i < l.length → (((((cellsB l).set (i * 4) (.int .u64 (wdI x 0))).set (i * 4 + 1) (.int .u64 (wdI x 1))).set (i * 4 + 2) (.int .u64 (wdI x 2))).set (i * 4 + 3) (.int .u64 (wdI x 3))) = cellsB (l.set i x) := by
  induction l with
  | nil => intro i x h; simp at h
  | cons r rs ih =>
    intro i x h
    have hc : ∀ (r : BS) (rs : List BS), cellsB (r :: rs) = .int .u64 (wdI r 0) :: .int .u64 (wdI r 1) :: .int .u64 (wdI r 2) :: .int .u64 (wdI r 3) :: cellsB rs := by intro r rs; simp [cellsB]
    cases i with
    | zero => rw [hc]; simp [hc]
    | succ i =>
      have e1 : (i + 1) * 4 = i * 4 + 1 + 1 + 1 + 1 := by omega
      rw [hc, e1]
      simp only [List.set_cons_succ]
      rw [hc, ih i x (by simpa using h)]
end Go.Proofs.YtegmoeeeomjkgaaDoor
end
section
namespace Go.Proofs.YtegmoeeeomjkgaaDoor
open Go Go.RowKit Go.Shelf

def atI : Option Nat → Int
  | none => -1
  | some i => i
theorem sameB_snoc (l : List BS) (n k f : Nat) (x : BS) (h : l[n]? = some x) : sameB (l.take (n + 1)) k f = (sameB (l.take n) k f && (x.getLsbD k == x.getLsbD f)) := by
  unfold sameB
  rw [List.take_add_one, h]
  simp [List.all_append]

theorem ownsRow_pos {w : World} {b : Nat} {e : TypeId} {size : Nat} {a : Option Addr} {n c : Nat} {xs : List Value} (h : w.ownsRow b e size (.slice a n c) n xs) (hn : 0 < n) : ∃ g, a = some ⟨g, 0, none⟩ := by
  rcases h.2 with ⟨_, h0⟩ | ⟨g, cap, cur, h1, _⟩
  · omega
  · cases h1; exact ⟨g, rfl⟩

set_option maxRecDepth 100000 in
set_option maxHeartbeats 8000000 in
theorem rsplit_any (a : Option Addr) (cap : Nat) (l : List BS) (w : World) (hd : RowB w a l) (hl : l.length ≤ 281474976710656) :
    Calls Tryd.prog 35 #[.slice a l.length cap] w fun e W' => ∃ v, e = .returned v ∧ W'.ownsRow w.heap.size 29 4 v (splitL l).length (cellsB (splitL l)) ∧ Below w.heap.size w W' := by
  obtain ⟨i29, hi29, hz0, hz1, hz2⟩ := info_parts Tryd.info29
  obtain ⟨i3, hi3, hy0, hy1, hy2⟩ := info_parts Tryd.info3
  have HD := Lib.hid hd
  clear hd
  have HLn : Hid (∀ b, atU (sameB l b) (splitTo l b).2 (splitTo l b).2.length = none → splitTo l (b + 1) = ((splitTo l b).1 ++ [withB 0#256 b], (splitTo l b).2 ++ [b])) := fun b h => by rw [splitTo, h]
  have HLs : Hid (∀ b i, atU (sameB l b) (splitTo l b).2 (splitTo l b).2.length = some i → splitTo l (b + 1) = ((splitTo l b).1.set i (withB ((splitTo l b).1[i]?.getD 0#256) b), (splitTo l b).2)) := fun b i h => by rw [splitTo, h]
  have HZ0 : Hid (splitTo l 0 = ([], [])) := Lib.hid rfl
  have HE : Hid ((splitTo l 256).1 = splitL l) := Lib.hid rfl
  have HLen := Lib.hid (splitTo_len l)
  generalize splitTo l = L at HLn HLs HZ0 HE HLen
  go_enter Tryd.func35, Tryd.ntmps35
  go_wp2
  go_loopw [3, 4, 5] (fun q f b wr => ∃ k : Nat, b = .int .i64 k ∧ k ≤ 256 ∧ Hid (wr.ownsRow w.heap.size 29 4 q (L k).1.length (cellsB (L k).1)) ∧ Hid (wr.ownsRow w.heap.size 3 1 f (L k).2.length ((L k).2.map intV)) ∧ Hid (Below w.heap.size w wr))
    (fun _ _ b _ => 256 - (intOf b).toNat)
  case atStart =>
    refine ⟨0, rfl, Nat.zero_le _, ?_, ?_, Below.refl _ w⟩
    · rw [HZ0.out]; exact World.ownsRow_nil _ _ _ _
    · rw [HZ0.out]; exact World.ownsRow_nil _ _ _ _
  case round =>
    obtain ⟨k, rfl, hk, hO, hF, hB⟩ := hrel
    by_cases hlt : k < 256
    · have HNn := Lib.hid (HLn.out k)
      have HNs := Lib.hid (HLs.out k)
      obtain ⟨hl1, hl2, hl3⟩ := HLen.out k
      have HL3 := Lib.hid hl3
      clear hl3
      generalize L k = T at HNn HNs hl1 hl2 HL3 hO hF
      obtain ⟨Q, F⟩ := T
      dsimp only at HNn HNs hl1 hl2 HL3 hO hF
      have HL1 := Lib.hid hl1
      clear hl1
      obtain ⟨aq, cq, rfl, _⟩ := owned_rowB hO.out
      obtain ⟨af, cf, rfl, hrf⟩ := owned_rowN hF.out
      have HRF := Lib.hid hrf
      clear hrf
      obtain ⟨wo, rfl⟩ : ∃ wo : World, wo = wr := ⟨_, rfl⟩
      go_wp2
      have hk2 : decide ((k : Int) < 256) = true := by simp; omega
      simp only [hk2]
      clear hk2
      go_loopw [6, 7] (fun t i wr => ∃ m : Nat, i = .int .i64 m ∧ m ≤ F.length ∧ t = .int .i64 (atI (atU (sameB l k) F m)) ∧ Hid (Below wo.heap.size wo wr))
        (fun _ i _ => F.length - (intOf i).toNat)
      case atStart => exact ⟨0, rfl, Nat.zero_le _, rfl, Below.refl _ wo⟩
      case round =>
        obtain ⟨m, rfl, hm, rfl, hW⟩ := hrel
        by_cases hmlt : m < F.length
        · have HX : Hid (F[m]? = some F[m]) := Lib.hid (List.getElem?_eq_getElem hmlt)
          have hf256 := HL3.out F[m] (List.getElem_mem hmlt)
          obtain ⟨f, hf⟩ : ∃ f, F[m] = f := ⟨_, rfl⟩
          rw [hf] at HX hf256
          replace hf256 : f < 256 := by omega
          clear hf
          have HA : Hid (atU (sameB l k) F (m + 1) = if sameB l k f = true then some m else atU (sameB l k) F m) := by
            refine Lib.hid ?_
            rw [atU, HX.out]; rfl
          generalize atU (sameB l k) F m = A at HA
          obtain ⟨bf, off, rfl, f0⟩ := HRF.out m f HX.out
          have blf : bf < wo.heap.size := lt_of_cell f0
          obtain ⟨w2, rfl⟩ : ∃ w2 : World, w2 = wr := ⟨_, rfl⟩
          go_wp2
          go_loopw [8, 9] (fun s j wr => ∃ n : Nat, j = .int .i64 n ∧ n ≤ l.length ∧ s = .bool (sameB (l.take n) k f) ∧ Hid (Below wo.heap.size wo wr))
            (fun _ j _ => l.length - (intOf j).toNat)
          case atStart => exact ⟨0, rfl, Nat.zero_le _, rfl, hW⟩
          case round =>
            obtain ⟨n, rfl, hn, rfl, hW2⟩ := hrel
            by_cases hnlt : n < l.length
            · have HX2 : Hid (l[n]? = some l[n]) := Lib.hid (List.getElem?_eq_getElem hnlt)
              obtain ⟨x, hx⟩ : ∃ x, l[n] = x := ⟨_, rfl⟩
              rw [hx] at HX2
              clear hx
              have HS := Lib.hid (sameB_snoc l n k f x HX2.out)
              generalize sameB (l.take n) k f = z at HS
              cases z with
              | false =>
                have HS2 : Hid (sameB (l.take (n + 1)) k f = false) := Lib.hid HS.out
                clear HS
                go_wp2
                first | go_region | go_quiet (fail)
                all_goals
                  go_wp2
                  go_roundw
                  case rel => exact ⟨n + 1, by go_num, by omega, by rw [HS2.out], hW2.out.drew⟩
                  case measure => simp [intOf]; omega
              | true =>
                have HHa0 := rhas_any x k hlt
                have HHb0 := rhas_any x f hf256
                have HS2 : Hid (sameB (l.take (n + 1)) k f = (x.getLsbD k == x.getLsbD f)) := Lib.hid (HS.out.trans (Bool.true_and _))
                clear HS
                obtain ⟨y1, hy1'⟩ : ∃ y, x.getLsbD k = y := ⟨_, rfl⟩
                obtain ⟨y2, hy2'⟩ : ∃ y, x.getLsbD f = y := ⟨_, rfl⟩
                rw [hy1'] at HHa0 HS2
                rw [hy2'] at HHb0 HS2
                clear hy1' hy2'
                unfold vset at HHa0 HHb0
                have HHa := fun w' => Lib.hid (HHa0 w')
                have HHb := fun w' => Lib.hid (HHb0 w')
                clear HHa0 HHb0
                obtain ⟨bx, ox, rfl, e0, e1, e2, e3⟩ := HD.out n _ HX2.out
                have blx : bx < w.heap.size := lt_of_cell e0
                have hBw : Hid (Below w.heap.size w wr) := Lib.hid (hB.out.trans (hW2.out.mono hB.out.size))
                have HKeep : Hid (∀ W W', Below wo.heap.size wo W → Below W.heap.size W W' → Below wo.heap.size wo W' ∧ (W'.cell? ⟨bx, ox + n * 4, none⟩ = some (.int .u64 (wdI x 0)) ∧ W'.cell? ⟨bx, ox + n * 4 + 1, none⟩ = some (.int .u64 (wdI x 1)) ∧ W'.cell? ⟨bx, ox + n * 4 + 2, none⟩ = some (.int .u64 (wdI x 2)) ∧ W'.cell? ⟨bx, ox + n * 4 + 3, none⟩ = some (.int .u64 (wdI x 3))) ∧ W'.cell? ⟨bf, off + m, none⟩ = some (.int .i64 f)) := by
                  refine Lib.hid fun W W' h1 h2 => ?_
                  have h3 := h1.trans (h2.mono h1.size)
                  have h4 := hB.out.trans (h3.mono hB.out.size)
                  exact ⟨h3, ⟨(h4.cell (p := ⟨bx, _, none⟩) blx).trans e0, (h4.cell (p := ⟨bx, _, none⟩) blx).trans e1, (h4.cell (p := ⟨bx, _, none⟩) blx).trans e2, (h4.cell (p := ⟨bx, _, none⟩) blx).trans e3⟩, (h3.cell (p := ⟨bf, _, none⟩) blf).trans f0⟩
                obtain ⟨_, ⟨r0, r1, r2, r3⟩, r4⟩ := HKeep.out wr wr hW2.out (Below.refl _ wr)
                go_wp2_with fail
                go_region_held3 (fun W => (W.cell? ⟨bx, ox + n * 4, none⟩ = some (.int .u64 (wdI x 0)) ∧ W.cell? ⟨bx, ox + n * 4 + 1, none⟩ = some (.int .u64 (wdI x 1)) ∧ W.cell? ⟨bx, ox + n * 4 + 2, none⟩ = some (.int .u64 (wdI x 2)) ∧ W.cell? ⟨bx, ox + n * 4 + 3, none⟩ = some (.int .u64 (wdI x 3))) ∧ W.cell? ⟨bf, off + m, none⟩ = some (.int .i64 f)) (go_keep)
                  (first
                    | (go_at_call 17; (with_reducible refine (HHa _).out.mono ?_); rintro e w' ⟨rfl, hB1⟩; obtain ⟨hBx, ⟨d0, d1, d2, d3⟩, d4⟩ := HKeep.out _ _ (by first | assumption | exact hW2.out.drew) hB1; clear hB1)
                    | (go_at_call 17; (with_reducible refine (HHb _).out.mono ?_); rintro e w' ⟨rfl, hB1⟩; obtain ⟨hBx, ⟨d0, d1, d2, d3⟩, d4⟩ := HKeep.out _ _ (by first | assumption | exact hW2.out.drew) hB1; clear hB1))
                all_goals
                  have HBX := Lib.hid hBx
                  clear d0 d1 d2 d3 d4 hBx
                  go_wp2
                  go_roundw
                  case rel => exact ⟨n + 1, by go_num, by omega, by rw [HS2.out], HBX⟩
                  case measure => simp [intOf]; omega
            · obtain rfl : n = l.length := by omega
              rw [List.take_length]
              cases hs : sameB l k f with
              | false =>
                rw [hs] at HA
                have HA2 : Hid (atU (sameB l k) F (m + 1) = A) := Lib.hid HA.out
                clear HA hs
                go_wp2
                go_roundw
                case rel => exact ⟨m + 1, by go_num, by omega, by rw [HA2.out], hW2⟩
                case measure => simp [intOf]; omega
              | true =>
                rw [hs] at HA
                have HA2 : Hid (atU (sameB l k) F (m + 1) = some m) := Lib.hid HA.out
                clear HA hs
                go_wp2
                go_roundw
                case rel => exact ⟨m + 1, by go_num, by omega, by rw [HA2.out]; rfl, hW2⟩
                case measure => simp [intOf]; omega
        · obtain rfl : m = F.length := by omega
          have hszr : w.heap.size ≤ wr.heap.size := Nat.le_trans hB.out.size hW.out.size
          have hO2 := Lib.hid (own_below hO.out hW.out (Nat.le_refl _))
          have hF2 := Lib.hid (own_below hF.out hW.out (Nat.le_refl _))
          have hB2 := Lib.hid (hB.out.trans (hW.out.mono hB.out.size))
          have hlq : Q.length ≤ 256 := by have := HL1.out; omega
          clear hO hF hB HRF HL3
          cases hat : atU (sameB l k) F F.length with
          | none =>
            have HN := Lib.hid (HNn.out hat)
            clear hat HNs HNn
            go_wp2_with (first
              | (at_builtin; refine wpList_append_own _ rfl (.tmp 51) (.tmp 53) 43 rfl w.heap.size 29 i29 _ 4 32 Tryd.underlying43 hi29 hz0 hz1 hz2 rfl (by decide) _ _ _ rfl (hO2.out.alloc _) ⟨wr.heap.size, 0, none⟩ 1 1 [.int .u64 0, .int .u64 0, .int .u64 0, .int .u64 0] rfl rfl (cell_four_new wr _ _ _ _ 29) (by simp [Value.oneCell']) (by unfold maxLen; omega) (by omega) (by simp; omega) ?_; intro v3 w3 hown3 hgrow3 _; have hf3 := own_finE (w := wr) (hO2.out.alloc _) ((Lib.OthersKept.refl 29 none wr).alloc _) ((Below.refl w.heap.size wr).alloc hszr _) hszr hgrow3; have hF3 := own_othersE hF2.out (by decide) hf3.1; have hsz3 : w.heap.size ≤ w3.heap.size := Nat.le_trans hszr hf3.2.size)
              | (at_builtin; refine wpList_append_own _ rfl (.tmp 55) (.tmp 57) 82 rfl w.heap.size 3 i3 _ 1 8 Tryd.underlying82 hi3 hy0 hy1 hy2 rfl (by decide) _ _ _ rfl (hF3.alloc _) ⟨w3.heap.size, 0, none⟩ 1 1 [.int .i64 k] rfl rfl (cell_one_new _ _ _) (by simp [Value.oneCell']) (by unfold maxLen; omega) (by omega) (by simp; omega) ?_; intro v5 w5 hown5 hgrow5 _))
            have hf5 := own_finE (w := w3) (hF3.alloc (.cells #[.int .i64 k] 3)) ((Lib.OthersKept.refl 3 none w3).alloc _) ((Below.refl w.heap.size w3).alloc hsz3 _) hsz3 hgrow5
            have hO5 := own_othersE hown3 (by decide) hf5.1
            have hBa : Hid (Below w.heap.size w w5) := hB2.out.trans (hf3.2.trans hf5.2)
            obtain ⟨Q1, hQ1⟩ : ∃ Q1, Q1 = Q ++ [0#256] := ⟨_, rfl⟩
            obtain ⟨F1, hF1⟩ : ∃ F1, F1 = F ++ [k] := ⟨_, rfl⟩
            have HN1 : Hid (L (k + 1) = (Q1.set Q.length (withB (Q1[Q.length]?.getD 0#256) k), F1)) := by
              refine Lib.hid (HN.out.trans ?_)
              rw [hQ1, hF1]
              simp
            have hFa : Hid (w5.ownsRow w.heap.size 3 1 v5 F1.length (F1.map intV)) := by
              refine Lib.hid ?_
              rw [hF1, List.length_append, List.map_append]
              exact hown5
            obtain ⟨g, cap, hsl⟩ := ownsRow_succ hown3
            cases hsl
            have hOa : Hid (w5.ownsRow w.heap.size 29 4 (.slice (some ⟨g, 0, none⟩) (Q.length + 1) cap) (Q.length + 1) (cellsB Q1)) := by
              refine Lib.hid ?_
              rw [hQ1, cellsB_snoc, show wdI 0#256 0 = 0 by decide, show wdI 0#256 1 = 0 by decide, show wdI 0#256 2 = 0 by decide, show wdI 0#256 3 = 0 by decide]
              exact hO5
            have hN : Q1.length = Q.length + 1 := by rw [hQ1]; simp
            have hi1 : Q.length < Q1.length := by omega
            have hiN : Q.length < Q.length + 1 := by omega
            clear hown3 hown5 hgrow3 hgrow5 hf3 hf5 hO5 hO2 hF2 hB2 hF3 HN hQ1 hF1 HL1 hl2 hsz3 hszr
            go_simp
            generalize Q.length + 1 = N at *
            generalize Q.length = i1 at *
            obtain ⟨x1, hx1⟩ : ∃ x, Q1[i1] = x := ⟨_, rfl⟩
            have HX1 : Hid (Q1[i1]? = some x1) := Lib.hid ((List.getElem?_eq_getElem hi1).trans (by rw [hx1]))
            clear hx1
            obtain ⟨p0, p1, p2, p3⟩ := cellsB_at Q1 i1 x1 HX1.out
            have HW0 := rwith_any x1 k hlt
            obtain ⟨u2, hu2⟩ : ∃ u, u = withB x1 k := ⟨_, rfl⟩
            rw [← hu2] at HW0
            have HU2 := Lib.hid hu2
            clear hu2
            unfold vset at HW0
            have HW := fun w' => Lib.hid (HW0 w')
            clear HW0
            have c0 : w5.cell? ⟨g, i1 * 4, none⟩ = some (.int .u64 (wdI x1 0)) := (hOa.out.cellAt (i1 * 4) (by omega)).trans p0
            have c1 : w5.cell? ⟨g, i1 * 4 + 1, none⟩ = some (.int .u64 (wdI x1 1)) := (hOa.out.cellAt (i1 * 4 + 1) (by omega)).trans p1
            have c2 : w5.cell? ⟨g, i1 * 4 + 2, none⟩ = some (.int .u64 (wdI x1 2)) := (hOa.out.cellAt (i1 * 4 + 2) (by omega)).trans p2
            have c3 : w5.cell? ⟨g, i1 * 4 + 3, none⟩ = some (.int .u64 (wdI x1 3)) := (hOa.out.cellAt (i1 * 4 + 3) (by omega)).trans p3
            have n1 : (i1 : Int) < (N : Int) := by omega
            have n0 : (0 : Int) ≤ (i1 : Int) := Int.natCast_nonneg _
            go_wp2_with fail
            refine (HW _).out.mono ?_
            rintro e w6 ⟨rfl, hB6⟩
            have hO6 := own_below hOa.out hB6 (Nat.le_refl _)
            have hF6 := own_below hFa.out hB6 (Nat.le_refl _)
            have hB7 := hBa.out.trans (hB6.mono hBa.out.size)
            have hs6 : w.heap.size ≤ w6.heap.size := hB7.size
            have d0 : w6.cell? ⟨g, i1 * 4, none⟩ = some (.int .u64 (wdI x1 0)) := (hO6.cellAt (i1 * 4) (by omega)).trans p0
            have d1 : w6.cell? ⟨g, i1 * 4 + 1, none⟩ = some (.int .u64 (wdI x1 1)) := (hO6.cellAt (i1 * 4 + 1) (by omega)).trans p1
            have d2 : w6.cell? ⟨g, i1 * 4 + 2, none⟩ = some (.int .u64 (wdI x1 2)) := (hO6.cellAt (i1 * 4 + 2) (by omega)).trans p2
            have d3 : w6.cell? ⟨g, i1 * 4 + 3, none⟩ = some (.int .u64 (wdI x1 3)) := (hO6.cellAt (i1 * 4 + 3) (by omega)).trans p3
            have fz0 := hO6.frozenAt (i1 * 4)
            have fz1 := hO6.frozenAt (i1 * 4 + 1)
            have fz2 := hO6.frozenAt (i1 * 4 + 2)
            have fz3 := hO6.frozenAt (i1 * 4 + 3)
            obtain ⟨s1, g1⟩ := hO6.stored (i1 * 4) (.int .u64 (wdI u2 0))
            obtain ⟨s2, g2⟩ := s1.stored (i1 * 4 + 1) (.int .u64 (wdI u2 1))
            obtain ⟨s3, g3⟩ := s2.stored (i1 * 4 + 2) (.int .u64 (wdI u2 2))
            obtain ⟨s4, g4⟩ := s3.stored (i1 * 4 + 3) (.int .u64 (wdI u2 3))
            have k1 := own_finE (w := w6) (w1 := w6) hO6 (Lib.OthersKept.refl 29 none w6) (Below.refl _ w6) hs6 g1
            have k2 := own_finE (w := w6) s1 k1.1 k1.2 hs6 g2
            have k3 := own_finE (w := w6) s2 k2.1 k2.2 hs6 g3
            have k4 := own_finE (w := w6) s3 k3.1 k3.2 hs6 g4
            rw [cellsB_set Q1 i1 u2 hi1] at s4
            have hF8 := Lib.hid (own_othersE hF6 (by decide) k4.1)
            have hB8 := Lib.hid (hB7.trans k4.2)
            have hO8 := Lib.hid s4
            clear s1 s2 s3 s4 g1 g2 g3 g4 k1 k2 k3 k4 hO6 hF6 hB7 hB6 hOa hFa hBa c0 c1 c2 c3 p0 p1 p2 p3 HW
            go_wp2
            go_roundw
            case rel =>
              refine ⟨k + 1, by go_num, by omega, ?_, ?_, ?_⟩
              · rw [HN1.out]; show World.ownsRow _ _ _ _ _ (Q1.set i1 _).length _; rw [List.length_set, hN, show withB (Q1[i1]?.getD 0#256) k = u2 by rw [HX1.out, HU2.out]; rfl]; exact hO8.out
              · rw [HN1.out]; exact hF8.out
              · exact hB8.out
            case measure => simp [intOf]; omega
          | some i0 =>
            have HN := Lib.hid (HNs.out i0 hat)
            have hi0 := atU_lt _ _ _ _ hat
            clear hat HNs HNn
            have hi0' : i0 < Q.length := by have := HL1.out; omega
            obtain ⟨g, rfl⟩ := ownsRow_pos hO2.out (by omega)
            have hOa := hO2
            have hFa := hF2
            have hBa := hB2
            obtain ⟨w5, rfl⟩ : ∃ w5 : World, w5 = wr := ⟨_, rfl⟩
            obtain ⟨i1, rfl⟩ : ∃ i1, i1 = i0 := ⟨_, rfl⟩
            rw [show atI (some i1) = (i1 : Int) from rfl]
            obtain ⟨N, hN⟩ : ∃ N, Q.length = N := ⟨_, rfl⟩
            have hi1 := hi0'
            have hiN : i1 < N := by omega
            rw [hN] at hOa
            clear hO2 hF2 hB2 HL1 hl2 hszr hi0
            obtain ⟨Q1, rfl⟩ : ∃ Q1, Q1 = Q := ⟨_, rfl⟩
            obtain ⟨F1, rfl⟩ : ∃ F1, F1 = F := ⟨_, rfl⟩
            have HN1 := HN
            clear HN
            rw [hN]
            obtain ⟨x1, hx1⟩ : ∃ x, Q1[i1] = x := ⟨_, rfl⟩
            have HX1 : Hid (Q1[i1]? = some x1) := Lib.hid ((List.getElem?_eq_getElem hi1).trans (by rw [hx1]))
            clear hx1
            obtain ⟨p0, p1, p2, p3⟩ := cellsB_at Q1 i1 x1 HX1.out
            have HW0 := rwith_any x1 k hlt
            obtain ⟨u2, hu2⟩ : ∃ u, u = withB x1 k := ⟨_, rfl⟩
            rw [← hu2] at HW0
            have HU2 := Lib.hid hu2
            clear hu2
            unfold vset at HW0
            have HW := fun w' => Lib.hid (HW0 w')
            clear HW0
            have c0 : w5.cell? ⟨g, i1 * 4, none⟩ = some (.int .u64 (wdI x1 0)) := (hOa.out.cellAt (i1 * 4) (by omega)).trans p0
            have c1 : w5.cell? ⟨g, i1 * 4 + 1, none⟩ = some (.int .u64 (wdI x1 1)) := (hOa.out.cellAt (i1 * 4 + 1) (by omega)).trans p1
            have c2 : w5.cell? ⟨g, i1 * 4 + 2, none⟩ = some (.int .u64 (wdI x1 2)) := (hOa.out.cellAt (i1 * 4 + 2) (by omega)).trans p2
            have c3 : w5.cell? ⟨g, i1 * 4 + 3, none⟩ = some (.int .u64 (wdI x1 3)) := (hOa.out.cellAt (i1 * 4 + 3) (by omega)).trans p3
            have n1 : (i1 : Int) < (N : Int) := by omega
            have n0 : (0 : Int) ≤ (i1 : Int) := Int.natCast_nonneg _
            go_wp2_with fail
            refine (HW _).out.mono ?_
            rintro e w6 ⟨rfl, hB6⟩
            have hO6 := own_below hOa.out hB6 (Nat.le_refl _)
            have hF6 := own_below hFa.out hB6 (Nat.le_refl _)
            have hB7 := hBa.out.trans (hB6.mono hBa.out.size)
            have hs6 : w.heap.size ≤ w6.heap.size := hB7.size
            have d0 : w6.cell? ⟨g, i1 * 4, none⟩ = some (.int .u64 (wdI x1 0)) := (hO6.cellAt (i1 * 4) (by omega)).trans p0
            have d1 : w6.cell? ⟨g, i1 * 4 + 1, none⟩ = some (.int .u64 (wdI x1 1)) := (hO6.cellAt (i1 * 4 + 1) (by omega)).trans p1
            have d2 : w6.cell? ⟨g, i1 * 4 + 2, none⟩ = some (.int .u64 (wdI x1 2)) := (hO6.cellAt (i1 * 4 + 2) (by omega)).trans p2
            have d3 : w6.cell? ⟨g, i1 * 4 + 3, none⟩ = some (.int .u64 (wdI x1 3)) := (hO6.cellAt (i1 * 4 + 3) (by omega)).trans p3
            have fz0 := hO6.frozenAt (i1 * 4)
            have fz1 := hO6.frozenAt (i1 * 4 + 1)
            have fz2 := hO6.frozenAt (i1 * 4 + 2)
            have fz3 := hO6.frozenAt (i1 * 4 + 3)
            obtain ⟨s1, g1⟩ := hO6.stored (i1 * 4) (.int .u64 (wdI u2 0))
            obtain ⟨s2, g2⟩ := s1.stored (i1 * 4 + 1) (.int .u64 (wdI u2 1))
            obtain ⟨s3, g3⟩ := s2.stored (i1 * 4 + 2) (.int .u64 (wdI u2 2))
            obtain ⟨s4, g4⟩ := s3.stored (i1 * 4 + 3) (.int .u64 (wdI u2 3))
            have k1 := own_finE (w := w6) (w1 := w6) hO6 (Lib.OthersKept.refl 29 none w6) (Below.refl _ w6) hs6 g1
            have k2 := own_finE (w := w6) s1 k1.1 k1.2 hs6 g2
            have k3 := own_finE (w := w6) s2 k2.1 k2.2 hs6 g3
            have k4 := own_finE (w := w6) s3 k3.1 k3.2 hs6 g4
            rw [cellsB_set Q1 i1 u2 hi1] at s4
            have hF8 := Lib.hid (own_othersE hF6 (by decide) k4.1)
            have hB8 := Lib.hid (hB7.trans k4.2)
            have hO8 := Lib.hid s4
            clear s1 s2 s3 s4 g1 g2 g3 g4 k1 k2 k3 k4 hO6 hF6 hB7 hB6 hOa hFa hBa c0 c1 c2 c3 p0 p1 p2 p3 HW
            go_wp2
            go_roundw
            case rel =>
              refine ⟨k + 1, by go_num, by omega, ?_, ?_, ?_⟩
              · rw [HN1.out]; show World.ownsRow _ _ _ _ _ (Q1.set i1 _).length _; rw [List.length_set, hN, show withB (Q1[i1]?.getD 0#256) k = u2 by rw [HX1.out, HU2.out]; rfl]; exact hO8.out
              · rw [HN1.out]; exact hF8.out
              · exact hB8.out
            case measure => simp [intOf]; omega
    · obtain rfl : k = 256 := by omega
      rw [HE.out] at hO
      go_wp2
      go_ret
      exact ⟨u3, rfl, hO.out, hB.out⟩
end Go.Proofs.YtegmoeeeomjkgaaDoor
end
section
namespace Go.Proofs.YtegmoeeeomjkgaaDoor
open Go Go.RowKit Go.Maps Go.WideMaps

theorem arr29 : ArrKey Tryd.prog 29 27 4 := ⟨Tryd.underlying29, by kernel_rfl, by kernel_rfl, cellsOf29⟩
theorem key29 : Keyed Tryd.prog 29 := Keyed.of_law arr29.law
theorem keyType29 : Tryd.prog.keyType 29 = true := by kernel_rfl

theorem keyLits27 (d : Nat) (n : Int) (h0 : 0 ≤ n) (h1 : n < 18446744073709551616) : Tryd.prog.keyLits (d + 1) 27 [.int .u64 n] = some [.int .u64 n] := by
  have e0 : IntKind.u64.min = 0 := by decide
  have e1 : IntKind.u64.max = 18446744073709551615 := by decide
  have hw : (Lit.int .u64 n).wf = true := by simp [Lit.wf, e0, e1]; omega
  unfold Program.keyLits
  simp [Tryd.underlying27, hw]

theorem wdI_rng (s : BS) (i : Nat) : 0 ≤ wdI s i ∧ wdI s i < 18446744073709551616 := by
  unfold wdI
  have := (wd s i).isLt
  omega

theorem key_some (s : BS) : ∃ l, keyOf Tryd.prog 29 (vset s) = some l := by
  have hsz : ∃ m, Tryd.prog.types.size = m + 1 := ⟨Tryd.prog.types.size - 1, by have : 0 < Tryd.prog.types.size := of_decide_eq_true (by kernel_rfl); omega⟩
  obtain ⟨m, hm⟩ := hsz
  unfold keyOf
  rw [Tryd.underlying29, keyType29]
  have hf : (vset s).formed Tryd.prog 29 = true := by simp [vset, Value.formed, Tryd.underlying29, cellsOf29]
  rw [hf, hm]
  unfold Program.keyLits
  simp only [Tryd.underlying29, cellsOf29, cellsOf27]
  have k0 := keyLits27 m (wdI s 0) (wdI_rng s 0).1 (wdI_rng s 0).2
  have k1 := keyLits27 m (wdI s 1) (wdI_rng s 1).1 (wdI_rng s 1).2
  have k2 := keyLits27 m (wdI s 2) (wdI_rng s 2).1 (wdI_rng s 2).2
  have k3 := keyLits27 m (wdI s 3) (wdI_rng s 3).1 (wdI_rng s 3).2
  simp [vset, cset, Value.cells, List.range, List.range.loop, k0, k1, k2, k3]

/-- The key of a set. -/
noncomputable def lk (s : BS) : Lit := (key_some s).choose
theorem key_lk (s : BS) : keyOf Tryd.prog 29 (vset s) = some (lk s) := (key_some s).choose_spec
theorem vset_inj {s t : BS} (h : vset s = vset t) : s = t := by
  unfold vset at h
  injection h with h
  have h2 := congrArg Array.toList h
  simp [cset] at h2
  exact wdI_inj h2.1 h2.2.1 h2.2.2.1 h2.2.2.2
theorem lk_inj {s t : BS} (h : lk s = lk t) : s = t := by
  have h1 := key_lk s
  have h2 := key_lk t
  rw [← h] at h2
  exact vset_inj (key29.inj h1 h2)
theorem lk_key (s : BS) : WideAt.IsKeyLit (lk s) := key29.key (key_lk s)

set_option maxRecDepth 100000 in
theorem keyLits27_inv (d : Nat) (v : Value) (ls : List Lit) (h : Tryd.prog.keyLits (d + 1) 27 [v] = some ls) : ∃ n : Int, v = .int .u64 n ∧ 0 ≤ n ∧ n < 18446744073709551616 := by
  unfold Program.keyLits at h
  rw [Tryd.underlying27] at h
  cases v <;> simp at h
  rename_i q n
  obtain ⟨⟨rfl, hw⟩, _⟩ := h
  exact ⟨n, rfl, u64_rng hw⟩

set_option maxRecDepth 100000 in
theorem formed29 {v : Value} (h : v.formed Tryd.prog 29 = true) : ∃ a b c d, v = .agg #[a, b, c, d] := by
  cases v <;> simp [Value.formed, Tryd.underlying29] at h
  rename_i cs
  replace h := h.trans cellsOf29
  obtain ⟨cs⟩ := cs
  match cs, h with
  | [a, b, c, d], _ => exact ⟨a, b, c, d, rfl⟩

set_option maxRecDepth 100000 in
/-- What reads as a key is a set. -/
theorem key_inv {v : Value} {l : Lit} (h : keyOf Tryd.prog 29 v = some l) : ∃ s, v = vset s ∧ l = lk s := by
  have hsz : ∃ m, Tryd.prog.types.size = m + 1 := ⟨Tryd.prog.types.size - 1, by have : 0 < Tryd.prog.types.size := of_decide_eq_true (by kernel_rfl); omega⟩
  obtain ⟨m, hm⟩ := hsz
  have h0 := h
  unfold keyOf at h
  rw [Tryd.underlying29, keyType29] at h
  cases hf : v.formed Tryd.prog 29 with
  | false => rw [hf] at h; simp at h
  | true =>
    rw [hf, hm] at h
    obtain ⟨a, b, c, d, rfl⟩ := formed29 hf
    simp only [Bool.and_self, if_true, Option.map_eq_some_iff] at h
    obtain ⟨ls, h1, _⟩ := h
    unfold Program.keyLits at h1
    simp only [Tryd.underlying29, cellsOf29, cellsOf27] at h1
    simp [Value.cells, List.range, List.range.loop] at h1
    obtain ⟨x0, k0⟩ : ∃ x, Tryd.prog.keyLits (m + 1) 27 [a] = some x := by
      cases k : Tryd.prog.keyLits (m + 1) 27 [a] with
      | none => rw [k] at h1; simp at h1
      | some x => exact ⟨x, rfl⟩
    obtain ⟨x1, k1⟩ : ∃ x, Tryd.prog.keyLits (m + 1) 27 [b] = some x := by
      cases k : Tryd.prog.keyLits (m + 1) 27 [b] with
      | none => rw [k0, k] at h1; simp at h1
      | some x => exact ⟨x, rfl⟩
    obtain ⟨x2, k2⟩ : ∃ x, Tryd.prog.keyLits (m + 1) 27 [c] = some x := by
      cases k : Tryd.prog.keyLits (m + 1) 27 [c] with
      | none => rw [k0, k1, k] at h1; simp at h1
      | some x => exact ⟨x, rfl⟩
    obtain ⟨x3, k3⟩ : ∃ x, Tryd.prog.keyLits (m + 1) 27 [d] = some x := by
      cases k : Tryd.prog.keyLits (m + 1) 27 [d] with
      | none => rw [k0, k1, k2, k] at h1; simp at h1
      | some x => exact ⟨x, rfl⟩
    obtain ⟨a, rfl, ra⟩ := keyLits27_inv _ _ _ k0
    obtain ⟨b, rfl, rb⟩ := keyLits27_inv _ _ _ k1
    obtain ⟨c, rfl, rc⟩ := keyLits27_inv _ _ _ k2
    obtain ⟨d, rfl, rd⟩ := keyLits27_inv _ _ _ k3
    obtain ⟨s, rfl, rfl, rfl, rfl⟩ := set_of_words a b c d ra rb rc rd
    refine ⟨s, rfl, ?_⟩
    have h2 := key_lk s
    unfold vset at h2
    rw [h0] at h2
    exact Option.some.inj h2

/-- A set's least byte. -/
def lo (s : BS) : Nat := (bytesL s).headD 0
theorem lo_lt (s : BS) : lo s < 256 := by
  unfold lo
  cases h : bytesL s with
  | nil => simp
  | cons x t => exact ((mem_bytesL s x).1 (by rw [h]; simp)).1

noncomputable abbrev el5 := plainElem (H := Unit) Tryd.prog 5
theorem el5_of (n : Nat) (hn : n < 256) : el5 (.int .u8 n) = some (.lit (.int .u8 n), []) := by
  refine plainElem_int Tryd.underlying5 ?_
  have e0 : IntKind.u8.min = 0 := by decide
  have e1 : IntKind.u8.max = 255 := by decide
  simp [Lit.wf, e0, e1]; omega

/-- Block b is a map of at most n entries: its keys are the sets of K, each with its least byte. -/
def MapS (w : World) (b n : Nat) (K : BS → Prop) : Prop := ∃ D : DataW Unit, w.ownsMap Tryd.prog 29 el5 b n D ∧ (∀ s, has D (lk s) = true ↔ K s) ∧ ∀ s, K s → ∀ z, D.atKey (lk s) z = .lit (.int .u8 (lo s))

theorem MapS.made (w : World) : MapS (w.alloc (.map #[] 0)) w.heap.size 0 (fun _ => False) :=
  ⟨.map [], World.ownsMap_made w _ _ _, fun s => by simp [has], fun s h => h.elim⟩
theorem MapS.lt {w : World} {b n : Nat} {K : BS → Prop} (h : MapS w b n K) : b < w.heap.size := by
  obtain ⟨D, h, _⟩ := h; exact h.lt
theorem MapS.kept {w w' : World} {b n : Nat} {K : BS → Prop} {row : Option Nat} (h : MapS w b n K) (hg : w.grownBy w' row) (hne : some b ≠ row) : MapS w' b n K := by
  obtain ⟨D, h, h1, h2⟩ := h; exact ⟨D, h.kept hg hne, h1, h2⟩
theorem MapS.below {w w' : World} {b n N : Nat} {K : BS → Prop} (h : MapS w b n K) (hB : Below N w w') (hb : b < N) : MapS w' b n K := by
  obtain ⟨D, ⟨es, clock, e1, e2⟩, h1, h2⟩ := h; exact ⟨D, ⟨es, clock, (hB.block b hb).trans e1, e2⟩, h1, h2⟩
theorem MapS.alloc {w : World} {b n : Nat} {K : BS → Prop} (h : MapS w b n K) (o : Obj) : MapS (w.alloc o) b n K := by
  obtain ⟨D, h, h1⟩ := h; exact ⟨D, h.alloc o, h1⟩
theorem MapS.setCell {w : World} {b n : Nat} {K : BS → Prop} (h : MapS w b n K) {a : Addr} (ha : b ≠ a.block) (u : Value) : MapS (w.setCell a u) b n K := by
  obtain ⟨D, h, h1⟩ := h; exact ⟨D, h.setCell ha u, h1⟩
theorem MapS.of_iff {w : World} {b n : Nat} {K K' : BS → Prop} (h : MapS w b n K) (hk : ∀ s, K s ↔ K' s) : MapS w b n K' := by
  have : K = K' := funext fun s => propext (hk s)
  subst this; exact h

theorem put_has {D : DataW Unit} (hD : IsMap D) {K : BS → Prop} (x : BS) (hh : ∀ s, has D (lk s) = true ↔ K s) (d : DataW Unit) (s : BS) : has (D.put (lk x) d) (lk s) = true ↔ (s = x ∨ K s) := by
  by_cases e : s = x
  · subst e; simp [has_put_same hD (lk_key s)]
  · rw [has_put_other (fun e2 => e (lk_inj e2))]
    simp [e, hh]
theorem del_has {D : DataW Unit} {K : BS → Prop} (x : BS) (hh : ∀ s, has D (lk s) = true ↔ K s) (s : BS) : has (D.del (lk x)) (lk s) = true ↔ (K s ∧ s ≠ x) := by
  by_cases e : s = x
  · subst e; simp [has_del_same]
  · rw [has_del_other (fun e2 => e (lk_inj e2))]
    simp [e, hh]

variable {ops : Array Oper} {rest : List Oper} {o : Oper} {a : Act} {Q : Exit → Act → World → Prop}

theorem wpList_putS (w : World) (hg : o.guard = none) (m x v : Operand) (hop : o.op = Op.mapUpdate 73 m x v ∨ o.op = Op.insert 73 m x v) (b n : Nat) (K : BS → Prop)
    (hm : a.eval m = .map (some b)) (h : MapS w b n K) (hn : n < maxLen) (s : BS) (hx : a.eval x = vset s) (hv : a.eval v = .int .u8 (lo s))
    (hK : ∀ w', MapS w' b (n + 1) (fun t => t = s ∨ K t) → w.mapTurned w' b → wpList Tryd.prog ops Q rest (a.put o.dst undef) w') :
    wpList Tryd.prog ops Q (o :: rest) a w := by
  obtain ⟨D, hown, hh, hat⟩ := h
  refine wpList_plain hg fun K' hK' => ?_
  obtain ⟨w', hrun, r1, r2⟩ := hown.store key29 Tryd.underlying73 hn (key_lk s) (el5_of (lo s) (lo_lt s))
  have h2 : MapS w' b (n + 1) (fun t => t = s ∨ K t) := by
    refine ⟨_, r1, fun t => put_has hown.isMap s hh _ t, fun t ht z => ?_⟩
    by_cases e : t = s
    · subst e; exact atKey_put_same hown.isMap (lk_key t) _ _
    · rw [atKey_put_other (fun e2 => e (lk_inj e2))]
      exact hat t (ht.resolve_left e) z
  unfold Oper.wp
  rcases hop with hop | hop
  · simp [execOp, hop, hm, hx, hv, hrun, Result.andThen]
    exact hK' _ _ (hK w' h2 r2)
  · simp [execOp, hop, hm, hx, hv, hrun, Result.andThen]
    exact hK' _ _ (hK w' h2 r2)

theorem wpList_delS (w : World) (hg : o.guard = none) (m x : Operand) (hop : o.op = Op.call { callee := Callee.builtin Builtin.delete, args := #[m, x], argTypes := #[73, 29] }) (b n : Nat) (K : BS → Prop)
    (hm : a.eval m = .map (some b)) (h : MapS w b n K) (s : BS) (hx : a.eval x = vset s)
    (hK : ∀ w', MapS w' b n (fun t => K t ∧ t ≠ s) → w.mapTurned w' b → wpList Tryd.prog ops Q rest (a.put o.dst (.tuple #[])) w') :
    wpList Tryd.prog ops Q (o :: rest) a w := by
  obtain ⟨D, hown, hh, hat⟩ := h
  refine wpList_delete_own w hg m x 73 29 hop 5 key29 Tryd.underlying73 el5 b n D hm hown (vset s) (lk s) hx (key_lk s) fun w' r1 r2 => hK w' ⟨_, r1, fun t => del_has s hh t, fun t ht z => ?_⟩ r2
  rw [atKey_del_other (fun e2 => ht.2 (lk_inj e2))]
  exact hat t ht.1 z

theorem zero5 (w : World) : (zeroValue 5).run Tryd.prog w = .ok (.int .u8 0) w := by kernel_rfl
/-- The byte of a key. -/
theorem MapS.look {w : World} {b n : Nat} {K : BS → Prop} (h : MapS w b n K) (s : BS) (hs : K s) : (Instr.lookup 73 (.map (some b)) (vset s) false).run Tryd.prog w = .ok (.int .u8 (lo s)) w := by
  obtain ⟨D, hown, hh, hat⟩ := h
  obtain ⟨c, hrun, h1, _⟩ := hown.lookup_int key29 Tryd.underlying73 Tryd.underlying5 (zero5 w) (key_lk s)
  rw [hat s hs] at h1
  simp at h1
  rw [hrun, ← h1]

/-- A range over such a map, whose keys still to come are those of L. -/
def RangeS (w : World) (b r n : Nat) (K L : BS → Prop) (cnt : Nat) : Prop :=
  ∃ (D : DataW Unit) (left : Lit → Bool), w.ranges Tryd.prog 29 el5 b r n D left cnt ∧ (∀ s, has D (lk s) = true ↔ K s) ∧ (∀ s, K s → ∀ z, D.atKey (lk s) z = .lit (.int .u8 (lo s))) ∧ ∀ s, left (lk s) = true ↔ L s
theorem RangeS.owns {w : World} {b r n cnt : Nat} {K L : BS → Prop} (h : RangeS w b r n K L cnt) : MapS w b n K := by
  obtain ⟨D, left, h, h1, h2, _⟩ := h; exact ⟨D, h.owns, h1, h2⟩
theorem RangeS.kept {w w' : World} {b r n cnt : Nat} {K L : BS → Prop} {row : Option Nat} (h : RangeS w b r n K L cnt) (hg : w.grownBy w' row) (hb : some b ≠ row) (hr : some r ≠ row) : RangeS w' b r n K L cnt := by
  obtain ⟨D, left, h, h1⟩ := h; exact ⟨D, left, h.kept hg hb hr, h1⟩
theorem RangeS.below {w w' : World} {b r n cnt N : Nat} {K L : BS → Prop} (h : RangeS w b r n K L cnt) (hB : Below N w w') (hb : b < N) (hr : r < N) : RangeS w' b r n K L cnt := by
  obtain ⟨D, left, ⟨es, clock, since, seen, c0, e1, e2, e3, e4, e5, e6⟩, h1⟩ := h
  exact ⟨D, left, ⟨es, clock, since, seen, c0, (hB.block b hb).trans e1, e2, e3, e4, (hB.block r hr).trans e5, e6⟩, h1⟩
theorem RangeS.alloc {w : World} {b r n cnt : Nat} {K L : BS → Prop} (h : RangeS w b r n K L cnt) (o : Obj) : RangeS (w.alloc o) b r n K L cnt := h.kept (World.grownBy_alloc w o none) (by simp) (by simp)
theorem RangeS.lt {w : World} {b r n cnt : Nat} {K L : BS → Prop} (h : RangeS w b r n K L cnt) : r < w.heap.size := by
  obtain ⟨D, left, h, _⟩ := h; exact h.lt
theorem RangeS.row_ne {w : World} {b r n cnt base : Nat} {K L : BS → Prop} {e : TypeId} {size : Nat} {v : Value} {m : Nat} {xs : List Value} (h : RangeS w b r n K L cnt) (ho : w.ownsRow base e size v m xs) : some r ≠ v.ownBlock := by
  obtain ⟨D, left, h, _⟩ := h; exact row_ne_iter ho h
theorem RangeS.left_eq {w : World} {b r n cnt : Nat} {K L : BS → Prop} (h : RangeS w b r n K L cnt) : w.rangeLeft b r = cnt := by
  obtain ⟨D, left, h, _⟩ := h; exact h.left_eq

theorem wpList_rangeS (w : World) (hg : o.guard = none) (m : Operand) (hop : o.op = Op.range 73 m) (b n : Nat) (K : BS → Prop) (hm : a.eval m = .map (some b)) (h : MapS w b n K)
    (hK : ∀ w' cnt, RangeS w' b w.heap.size n K K cnt → cnt ≤ n → w.grownBy w' none → w'.heap.size = w.heap.size + 1 → wpList Tryd.prog ops Q rest (a.put o.dst (.pointer (some ⟨w.heap.size, 0, none⟩))) w') :
    wpList Tryd.prog ops Q (o :: rest) a w := by
  obtain ⟨D, hown, hh, hat⟩ := h
  exact wpList_range_own w hg m 73 hop 29 5 key29 Tryd.underlying73 el5 b n D hm hown fun w' r1 r2 r3 => hK w' _ ⟨D, has D, r1, hh, hat, hh⟩ hown.size_le r2 r3

theorem wpList_nextS (w : World) (hg : o.guard = none) (it : Operand) (hop : o.op = Op.next it false) (b r n cnt : Nat) (K L : BS → Prop) (hit : a.eval it = .pointer (some ⟨r, 0, none⟩)) (h : RangeS w b r n K L cnt)
    (hDone : cnt = 0 → (∀ s, ¬ L s) → wpList Tryd.prog ops Q rest (a.put o.dst (.tuple #[.bool false])) w)
    (hMore : ∀ (s : BS) (w' : World) (cnt' : Nat), L s → K s → RangeS w' b r n K (fun t => L t ∧ t ≠ s) cnt' → cnt' < cnt → w.grownBy w' (some r) → w'.heap.size = w.heap.size →
      (Instr.entry (.pointer (some ⟨r, 0, none⟩))).run Tryd.prog w' = .ok (.tuple #[vset s, .int .u8 (lo s)]) w' → wpList Tryd.prog ops Q rest (a.put o.dst (.tuple #[.bool true, vset s, .int .u8 (lo s)])) w') :
    wpList Tryd.prog ops Q (o :: rest) a w := by
  obtain ⟨D, left, hr, hh, hat, hl⟩ := h
  refine wpList_next_ranges w hg it hop 29 key29 el5 vset (fun c : Int => .int .u8 c) (fun key kl hk => ⟨_, (key_inv hk).choose_spec.1⟩) (fun v y hv => by obtain ⟨c, e, _⟩ := plainElem_int_inv Tryd.underlying5 hv; exact ⟨c, e⟩) b r n D left cnt hit hr (fun h0 h1 => hDone h0 fun s hs => ?_) fun s c kl y w' cnt' hk hlk hy hat2 hr2 hlt hgr hsz hen => ?_
  · have := (hl s).2 hs
    rw [h1] at this; cases this
  · have hkl : kl = lk s := by
      have h2 := key_lk s
      rw [hk] at h2
      exact Option.some.inj h2
    subst hkl
    have hKs : K s := (hh s).1 (has_true_of_atKey hat2)
    have hc : c = (lo s : Int) := by
      have h2 := hat s hKs (.lit (.int .u8 0))
      rw [hat2] at h2
      obtain ⟨c', e1, e2, _⟩ := plainElem_int_inv Tryd.underlying5 hy
      cases e1
      rw [e2] at h2
      simpa using h2
    subst hc
    refine hMore s w' cnt' ((hl s).1 hlk) hKs ⟨D, _, hr2, hh, hat, fun t => ?_⟩ hlt hgr hsz hen
    by_cases e : t = s
    · subst e; simp [WideAt.sameKey_self (lk_key t)]
    · have : (lk t).sameKey (lk s) = false := by
        cases h3 : (lk t).sameKey (lk s) with
        | false => rfl
        | true => exact absurd (lk_inj (WideAt.sameKey_eq h3)) e
      simp [this, e, hl]
end Go.Proofs.YtegmoeeeomjkgaaDoor
end
