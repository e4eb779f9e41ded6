import Derived.Sort.MapsRangeIn
import Derived.RangeFuncSeq
import Derived.RangeFuncGives
import Derived.RangeFuncNested
import Derived.RangeFuncBox
import Derived.Test.YtegmoeeeomjkgaaDoorZ2
import Derived.Test.YtegmoeeeomjkgaaDoorZ5
section
namespace Go.Proofs.YtegmoeeeomjkgaaDoor
open Go Go.RowKit Go.Maps Go.Shelf

/-- Does a set cut a part? -/
def cutB (s p : BS) : Bool := !(p &&& s == 0#256) && !(p &&& s == p)

theorem eq_zero (s : BS) (w : World) : (Op.equalIn 10000 29 (.agg #[.int .u64 (wdI s 0), .int .u64 (wdI s 1), .int .u64 (wdI s 2), .int .u64 (wdI s 3)]) (.agg #[.int .u64 0, .int .u64 0, .int .u64 0, .int .u64 0])).run Tryd.prog w = .ok (s == 0#256) w := by
  have h := eq_sets s 0#256 w
  rw [show wdI 0#256 0 = 0 by decide, show wdI 0#256 1 = 0 by decide, show wdI 0#256 2 = 0 by decide, show wdI 0#256 3 = 0 by decide] at h
  exact h

theorem own_mono {w : World} {b b' : Nat} {e : TypeId} {size : Nat} {v : Value} {n : Nat} {xs : List Value} (h : w.ownsRow b e size v n xs) (hb : b' ≤ b) : w.ownsRow b' e size v n xs := by
  refine ⟨h.1, ?_⟩
  rcases h.2 with h1 | ⟨g, cap, cur, h1, h2, h3⟩
  · exact .inl h1
  · exact .inr ⟨g, cap, cur, h1, Nat.le_trans hb h2, h3⟩
theorem step_no {l : List BS} {L K : BS → Prop} {s p : BS} (hl : l.Nodup ∧ (∀ x, x ∈ l ↔ K x ∧ ¬ L x ∧ cutB s x = true) ∧ ∀ x, L x → K x) (hc : cutB s p = false) :
    l.Nodup ∧ (∀ x, x ∈ l ↔ K x ∧ ¬ (L x ∧ x ≠ p) ∧ cutB s x = true) ∧ ∀ x, (L x ∧ x ≠ p) → K x := by
  refine ⟨hl.1, fun x => ?_, fun x h => hl.2.2 x h.1⟩
  rw [hl.2.1 x]
  constructor
  · rintro ⟨h1, h2, h3⟩; exact ⟨h1, fun h => h2 h.1, h3⟩
  · rintro ⟨h1, h2, h3⟩
    refine ⟨h1, fun h => h2 ⟨h, fun e => ?_⟩, h3⟩
    rw [e, hc] at h3; cases h3
theorem step_yes {l : List BS} {L K : BS → Prop} {s p : BS} (hl : l.Nodup ∧ (∀ x, x ∈ l ↔ K x ∧ ¬ L x ∧ cutB s x = true) ∧ ∀ x, L x → K x) (hL : L p) (hc : cutB s p = true) :
    (l ++ [p]).Nodup ∧ (∀ x, x ∈ l ++ [p] ↔ K x ∧ ¬ (L x ∧ x ≠ p) ∧ cutB s x = true) ∧ ∀ x, (L x ∧ x ≠ p) → K x := by
  refine ⟨?_, fun x => ?_, fun x h => hl.2.2 x h.1⟩
  · rw [List.nodup_append]
    refine ⟨hl.1, by simp, fun a ha b hb e => ?_⟩
    simp at hb
    subst hb; subst e
    exact ((hl.2.1 a).1 ha).2.1 hL
  · rw [List.mem_append, hl.2.1 x]
    simp only [List.mem_singleton]
    constructor
    · rintro (⟨h1, h2, h3⟩ | rfl)
      · exact ⟨h1, fun h => h2 h.1, h3⟩
      · exact ⟨hl.2.2 x hL, fun h => h.2 rfl, hc⟩
    · rintro ⟨h1, h2, h3⟩
      by_cases e : x = p
      · exact .inr e
      · exact .inl ⟨h1, fun h => h2 ⟨h, e⟩, h3⟩

set_option maxRecDepth 100000 in
set_option maxHeartbeats 8000000 in
theorem cut_any (b n : Nat) (K : BS → Prop) (s : BS) (w : World) (hM : MapS w b n K) (hn : n ≤ 4294967296) :
    Calls Tryd.prog 47 #[.map (some b), vset s] w fun e W' => ∃ v l, e = .returned v ∧ l.Nodup ∧ (∀ p, p ∈ l ↔ K p ∧ cutB s p = true) ∧ W'.ownsRow w.heap.size 29 4 v l.length (cellsB l) ∧ l.length ≤ n ∧ Below w.heap.size w W' := by
  obtain ⟨i29, hi29, hz0, hz1, hz2⟩ := info_parts Tryd.info29
  have hbw := hM.lt
  have e1 : (w.alloc (.cells #[.int .u64 (wdI s 0), .int .u64 (wdI s 1), .int .u64 (wdI s 2), .int .u64 (wdI s 3)] 29)).heap.size = w.heap.size + 1 := by simp
  unfold vset
  go_enter Tryd.func47, Tryd.ntmps47
  go_wp2_with (first
    | (at_range; refine wpList_rangeS _ rfl _ rfl b n K rfl (hM.alloc _) ?_; intro w1 cnt0 hr1 hc1 hg1 hs1)
    | go_in)
  go_frame
  rw [e1] at hr1 hs1 ⊢
  have hA1 : Hid (Blk w1 w.heap.size 29 (cset s)) := by
    exact Blk.kept (Blk.new w 29 (cset s)) hg1 (by simp)
  have hB1 : Hid (Below w.heap.size w w1) := ((Below.refl _ _).alloc (Nat.le_refl _) _).grown hg1 (by simp) (fun j hj => by cases hj)
  go_loopw [5] (fun q wr => ∃ (l : List BS) (L : BS → Prop) (cnt : Nat), RangeS wr b (w.heap.size + 1) n K L cnt ∧ l.length + cnt ≤ n ∧ Hid (l.Nodup ∧ (∀ p, p ∈ l ↔ K p ∧ ¬ L p ∧ cutB s p = true) ∧ ∀ p, L p → K p) ∧ Hid (wr.ownsRow (w.heap.size + 1) 29 4 q l.length (cellsB l)) ∧ Hid (Blk wr w.heap.size 29 (cset s)) ∧ Hid (Below w.heap.size w wr))
    (fun _ wr => wr.rangeLeft b (w.heap.size + 1))
  case atStart =>
    refine ⟨[], K, cnt0, hr1, by simpa using hc1, Lib.hid ⟨List.nodup_nil, fun p => ⟨fun h => (by cases h), fun h => absurd h.1 h.2.1⟩, fun p h => h⟩, ?_, hA1, hB1⟩
    exact World.ownsRow_nil _ _ _ _
  case round =>
    clear hr1 hA1 hB1
    obtain ⟨l, L, cnt, hrg, hlc, hl, hO, hA, hB⟩ := hrel
    go_wp2_with (first
      | (at_next; refine wpList_nextS _ rfl _ rfl b (w.heap.size + 1) n cnt K L rfl hrg ?_ ?_)
      | go_in)
    · intro hc0 hl0
      go_wp2
      go_ret
      refine ⟨u5, l, rfl, hl.out.1, fun p => ?_, own_mono hO.out (Nat.le_succ _), by omega, hB.out⟩
      rw [hl.out.2.1 p]
      exact ⟨fun h => ⟨h.1, h.2.2⟩, fun h => ⟨h.1, hl0 p, h.2⟩⟩
    · intro p w2 cnt2 hLp hKp hr2 hlt hg2 hs2 hen
      have hr : w.heap.size + 1 < w2.heap.size := hr2.lt
      have hO2 : Hid (w2.ownsRow (w.heap.size + 1) 29 4 u5 l.length (cellsB l)) := Lib.hid (hO.out.kept hg2 (.inr (Ne.symm (hrg.row_ne hO.out))))
      have hA2 : Hid (Blk w2 w.heap.size 29 (cset s)) := hA.out.kept hg2 (by simp)
      have hB2 : Hid (Below w.heap.size w w2) := hB.out.grown hg2 hB.out.size (fun j hj => by cases hj; omega)
      have HMt0 := meet_any p s
      obtain ⟨m, hm⟩ : ∃ m, m = p &&& s := ⟨_, rfl⟩
      rw [← hm] at HMt0
      unfold vset at HMt0 hen
      have HMt := fun w' => Lib.hid (HMt0 w')
      clear HMt0
      have a0 : w2.cell? ⟨w.heap.size, 0, none⟩ = some (.int .u64 (wdI s 0)) := hA2.out.cell 0
      have a1 : w2.cell? ⟨w.heap.size, 1, none⟩ = some (.int .u64 (wdI s 1)) := hA2.out.cell 1
      have a2 : w2.cell? ⟨w.heap.size, 2, none⟩ = some (.int .u64 (wdI s 2)) := hA2.out.cell 2
      have a3 : w2.cell? ⟨w.heap.size, 3, none⟩ = some (.int .u64 (wdI s 3)) := hA2.out.cell 3
      have HS2 := Lib.hid hs2
      clear hs2
      have hr0 : w.heap.size < w2.heap.size := by omega
      go_wp2_with fail
      refine (HMt _).out.mono ?_
      rintro e w4 ⟨rfl, hB4⟩
      have hP4 : Hid (Blk w4 w2.heap.size 29 (cset p)) := Lib.hid ((Blk.new w2 29 (cset p)).below hB4 (by simp))
      have hB24 : Hid (Below w2.heap.size w2 w4) := Lib.hid (((Below.refl _ w2).alloc (Nat.le_refl _) _).trans (hB4.mono (by simp)))
      clear hB4 a0 a1 a2 a3
      have hA4 : Hid (Blk w4 w.heap.size 29 (cset s)) := Lib.hid (hA2.out.below hB24.out (by omega))
      have hO4 := Lib.hid (own_below hO2.out hB24.out (Nat.le_refl _))
      have hr4 := hr2.below hB24.out (by omega) hr
      have hB4 : Hid (Below w.heap.size w w4) := Lib.hid (hB2.out.trans (hB24.out.mono hB2.out.size))
      have hlt4 : w2.heap.size < w4.heap.size := hP4.out.lt
      have p0 : w4.cell? ⟨w2.heap.size, 0, none⟩ = some (.int .u64 (wdI p 0)) := hP4.out.cell 0
      have p1 : w4.cell? ⟨w2.heap.size, 1, none⟩ = some (.int .u64 (wdI p 1)) := hP4.out.cell 1
      have p2 : w4.cell? ⟨w2.heap.size, 2, none⟩ = some (.int .u64 (wdI p 2)) := hP4.out.cell 2
      have p3 : w4.cell? ⟨w2.heap.size, 3, none⟩ = some (.int .u64 (wdI p 3)) := hP4.out.cell 3
      have HE1 := eq_zero m
      have HE2 := eq_sets m p
      have hcut : cutB s p = (!(m == 0#256) && !(m == p)) := by rw [hm]; rfl
      have HC := Lib.hid hcut
      clear hcut hm
      generalize (m == 0#256) = x1 at HE1 HC
      generalize (m == p) = x2 at HE2 HC
      have hmax : l.length + 1 ≤ n := by omega
      have hszr : w.heap.size ≤ w4.heap.size := hB4.out.size
      clear hO2 hA2 hB2 hB24 hO hA hB hr2 HMt
      cases x1 with
      | true =>
        go_wp2
        go_roundw
        case rel => exact ⟨l, fun t => L t ∧ t ≠ p, cnt2, hr4.alloc _, by omega, step_no hl.out HC.out, Lib.hid (hO4.alloc _), Lib.hid (hA4.out.alloc _), Lib.hid (hB4.out.alloc hszr _)⟩
        case measure => rw [hr4.alloc _ |>.left_eq, hrg.left_eq]; exact hlt
      | false =>
        cases x2 with
        | true =>
          go_wp2
          go_roundw
          case rel => exact ⟨l, fun t => L t ∧ t ≠ p, cnt2, hr4.alloc _, by omega, step_no hl.out HC.out, Lib.hid (hO4.alloc _), Lib.hid (hA4.out.alloc _), Lib.hid (hB4.out.alloc hszr _)⟩
          case measure => rw [hr4.alloc _ |>.left_eq, hrg.left_eq]; exact hlt
        | false =>
          go_wp2_with (first
            | (at_builtin; refine wpList_append_own _ rfl (.tmp 25) (.tmp 27) 43 rfl (w.heap.size + 1) 29 i29 _ 4 32 Tryd.underlying43 hi29 hz0 hz1 hz2 rfl (by decide) _ _ _ rfl ((hO4.alloc _).alloc _) ⟨w4.heap.size + 1, 0, none⟩ 1 1 [.int .u64 (wdI p 0), .int .u64 (wdI p 1), .int .u64 (wdI p 2), .int .u64 (wdI p 3)] rfl (by rfl) (by have h := cell_four_new (w4.alloc (.cells (cset m) 29)) (.int .u64 (wdI p 0)) (.int .u64 (wdI p 1)) (.int .u64 (wdI p 2)) (.int .u64 (wdI p 3)) 29; rw [World.size_alloc] at h; exact h) (by simp [Value.oneCell']) (by unfold maxLen; omega) (by omega) (by simp; omega) ?_; intro v5 w5 hown5 hgrow5 _))
          have hszr1 : w.heap.size + 1 ≤ w4.heap.size := by omega
          have hO4' := (hO4.alloc (.cells (cset m) 29)).alloc (.cells (cset p) 29)
          have hr5 := ((hr4.alloc (.cells (cset m) 29)).alloc (.cells (cset p) 29))
          have hr6 := hr5.kept hgrow5 (row_ne_low hO4' (by omega)) (hr5.row_ne hO4')
          have hf := own_finE (w := w4) hO4' (((Lib.OthersKept.refl 29 none w4).alloc _).alloc _) (((Below.refl (w.heap.size + 1) w4).alloc hszr1 _).alloc (by simp; omega) _) hszr1 hgrow5
          have hA6 : Hid (Blk w5 w.heap.size 29 (cset s)) := Lib.hid (((hA4.out.alloc (.cells (cset m) 29)).alloc (.cells (cset p) 29)).kept hgrow5 (row_ne_low hO4' (Nat.lt_succ_self _)))
          have hO6 : Hid (w5.ownsRow (w.heap.size + 1) 29 4 v5 (l ++ [p]).length (cellsB (l ++ [p]))) := by
            refine Lib.hid ?_
            rw [cellsB_snoc, List.length_append]; exact hown5
          have hB6 := Lib.hid (hB4.out.trans (hf.2.mono (Nat.le_succ _)))
          clear hf hown5 hgrow5 hO4' hr5
          go_roundw
          case rel => exact ⟨l ++ [p], fun t => L t ∧ t ≠ p, cnt2, hr6, by simp; omega, step_yes hl.out hLp HC.out, hO6, hA6, hB6⟩
          case measure => rw [hr6.left_eq, hrg.left_eq]; exact hlt
end Go.Proofs.YtegmoeeeomjkgaaDoor
end
section
namespace Go.Proofs.YtegmoeeeomjkgaaDoor
open Go Go.RowKit Go.Maps Go.Shelf

theorem RangeS.iter_walk {w : World} {b r n cnt : Nat} {K L : BS → Prop} (h : RangeS w b r n K L cnt) : ∃ o : Obj, w.heap[r]? = some o ∧ o.isWalk = true := by
  obtain ⟨D, left, h, _⟩ := h; exact h.iter_walk
theorem RangeS.of_walks {w w' : World} {b r n cnt : Nat} {K L : BS → Prop} (h : RangeS w b r n K L cnt) (hk : KeepsWalks w w') : RangeS w' b r n K L cnt := by
  obtain ⟨D, left, h, h1⟩ := h; exact ⟨D, left, h.of_walks hk, h1⟩

section
variable {F : Fence} {n : Nat} {w : World} {ops : Array Oper} {rest : List Oper} {o : Oper} {a : Act} {Q : Exit → Act → World → Prop}

theorem wpListIn_rangeS (hg : o.guard = none) (m : Operand) (hop : o.op = Op.range 73 m) (b nn : Nat) (K : BS → Prop) (hm : a.eval m = .map (some b)) (h : MapS w b nn K)
    (hK : ∀ w' cnt, RangeS w' b w.heap.size nn K K cnt → cnt ≤ nn → w.grownBy w' none → w'.heap.size = w.heap.size + 1 → wpListIn F n Tryd.prog ops Q rest (a.put o.dst (.pointer (some ⟨w.heap.size, 0, none⟩))) w') :
    wpListIn F n Tryd.prog ops Q (o :: rest) a w := by
  obtain ⟨D, hown, hh, hat⟩ := h
  exact wpListIn_range_own w hg m 73 hop 29 5 key29 Tryd.underlying73 el5 b nn D hm hown fun w' r1 r2 r3 => hK w' _ ⟨D, has D, r1, hh, hat, hh⟩ hown.size_le r2 r3

theorem wpListIn_nextS (hg : o.guard = none) (it : Operand) (hop : o.op = Op.next it false) (b r nn cnt : Nat) (K L : BS → Prop) (hit : a.eval it = .pointer (some ⟨r, 0, none⟩)) (h : RangeS w b r nn K L cnt)
    (hDone : cnt = 0 → (∀ s, ¬ L s) → wpListIn F n Tryd.prog ops Q rest (a.put o.dst (.tuple #[.bool false])) w)
    (hMore : ∀ (s : BS) (w' : World) (cnt' : Nat), L s → K s → RangeS w' b r nn K (fun t => L t ∧ t ≠ s) cnt' → cnt' < cnt → w.grownBy w' (some r) → w'.heap.size = w.heap.size →
      (Instr.entry (.pointer (some ⟨r, 0, none⟩))).run Tryd.prog w' = .ok (.tuple #[vset s, .int .u8 (lo s)]) w' → wpListIn F n Tryd.prog ops Q rest (a.put o.dst (.tuple #[.bool true, vset s, .int .u8 (lo s)])) w') :
    wpListIn F n Tryd.prog ops Q (o :: rest) a w := by
  obtain ⟨D, left, hr, hh, hat, hl⟩ := h
  refine wpListIn_next_ranges w hg it hop 29 key29 el5 vset (fun c : Int => .int .u8 c) (fun key kl hk => ⟨_, (key_inv hk).choose_spec.1⟩) (fun v y hv => by obtain ⟨c, e, _⟩ := plainElem_int_inv Tryd.underlying5 hv; exact ⟨c, e⟩) b r nn D left cnt hit hr (fun h0 h1 => hDone h0 fun s hs => ?_) fun s c kl y w' cnt' hk hlk hy hat2 hr2 hlt hgr hsz hen => ?_
  · have := (hl s).2 hs
    rw [h1] at this; cases this
  · have hkl : kl = lk s := by
      have h2 := key_lk s
      rw [hk] at h2
      exact Option.some.inj h2
    subst hkl
    have hKs : K s := (hh s).1 (has_true_of_atKey hat2)
    have hc : c = (lo s : Int) := by
      have h2 := hat s hKs (.lit (.int .u8 0))
      rw [hat2] at h2
      obtain ⟨c', e1, e2, _⟩ := plainElem_int_inv Tryd.underlying5 hy
      cases e1
      rw [e2] at h2
      simpa using h2
    subst hc
    refine hMore s w' cnt' ((hl s).1 hlk) hKs ⟨D, _, hr2, hh, hat, fun t => ?_⟩ hlt hgr hsz hen
    by_cases e : t = s
    · subst e; simp [WideAt.sameKey_self (lk_key t)]
    · have : (lk t).sameKey (lk s) = false := by
        cases h3 : (lk t).sameKey (lk s) with
        | false => rfl
        | true => exact absurd (lk_inj (WideAt.sameKey_eq h3)) e
      simp [this, e, hl]
end

theorem keys_step {l : List BS} {L K : BS → Prop} {p : BS} (hl : l.Nodup ∧ (∀ x, x ∈ l ↔ K x ∧ ¬ L x) ∧ ∀ x, L x → K x) (hL : L p) :
    (l ++ [p]).Nodup ∧ (∀ x, x ∈ l ++ [p] ↔ K x ∧ ¬ (L x ∧ x ≠ p)) ∧ ∀ x, (L x ∧ x ≠ p) → K x := by
  refine ⟨?_, fun x => ?_, fun x h => hl.2.2 x h.1⟩
  · rw [List.nodup_append]
    refine ⟨hl.1, by simp, fun a ha b hb e => ?_⟩
    simp at hb
    subst hb; subst e
    exact ((hl.2.1 a).1 ha).2 hL
  · rw [List.mem_append, hl.2.1 x]
    simp only [List.mem_singleton]
    constructor
    · rintro (⟨h1, h2⟩ | rfl)
      · exact ⟨h1, fun h => h2 h.1⟩
      · exact ⟨hl.2.2 x hL, fun h => h.2 rfl⟩
    · rintro ⟨h1, h2⟩
      by_cases e : x = p
      · exact .inr e
      · exact .inl ⟨h1, fun h => h2 ⟨h, e⟩⟩

attribute [local go_sem] Oper.semAt_some

set_option maxRecDepth 100000 in
set_option maxHeartbeats 4000000 in
theorem keys1_in (n : Nat) (hn : 1 ≤ n) (l Bm b nn : Nat) (K : BS → Prop) (J Jx : List BS → World → Prop)
    (hY : ∀ pre x W, J pre W → pre.length < nn → YieldAt Fence.wide (n - 1) Tryd.prog l #[vset x] W fun e W' =>
      (e = .returned (.bool true) ∧ J (pre ++ [x]) W' ∧ KeepsWalks W W') ∨ (e = .returned (.bool false) ∧ Jx (pre ++ [x]) W'))
    (W : World) (hJ : AbidesFrom W.heap.size J) (hm : W.cell? ⟨Bm, 0, none⟩ = some (.map (some b))) (hown : MapS W b nn K) (h0 : J [] W) :
    CallsIn Fence.wide n Tryd.prog 59 #[.func (.yield l) #[] #[], .pointer (some ⟨Bm, 0, none⟩)] W fun e W' => (∃ v, e = .returned v) ∧
      ((∃ ss : List BS, (ss.Nodup ∧ ∀ x, x ∈ ss ↔ K x) ∧ J ss W') ∨ (∃ pre : List BS, True ∧ Jx pre W')) := by
  refine callsIn_of_wp Tryd.func59 rfl trivial ?_ rfl
  simp only [Tryd.ntmps59, List.size_toArray, List.length_cons, List.length_nil, Nat.reduceAdd, Nat.reduceSub, Array.replicate_succ, Array.replicate_zero, List.push_toArray, List.append_toArray, List.nil_append, List.cons_append]
  gi_wp2_with (first
    | (gi_at_range; refine wpListIn_rangeS rfl _ rfl b nn K rfl hown ?_; intro w0 cnt0 hrg0 hc0 hg0 hs0)
    | gi_in)
  go_frame
  gi_loopw [3] (fun _ wr => ∃ (L : BS → Prop) (cnt : Nat) (ss : List BS), RangeS wr b W.heap.size nn K L cnt ∧ ss.length + cnt ≤ nn ∧ Hid (ss.Nodup ∧ (∀ p, p ∈ ss ↔ K p ∧ ¬ L p) ∧ ∀ p, L p → K p) ∧ J ss wr)
    (fun _ wr => wr.rangeLeft b W.heap.size)
  case atStart =>
    exact ⟨K, cnt0, [], hrg0, by simpa using hc0, Lib.hid ⟨List.nodup_nil, fun p => ⟨fun h => (by cases h), fun h => absurd h.1 h.2⟩, fun p h => h⟩, hJ [] W w0 none h0 hg0 (fun r e => by cases e)⟩
  case round =>
    obtain ⟨L, cnt, ss, hrg, hcs, hC, hJs⟩ := hrel
    gi_wp2_with (first
      | (gi_at_next; refine wpListIn_nextS rfl _ rfl b W.heap.size nn cnt K L rfl hrg ?_ ?_)
      | gi_in)
    · intro hc0 hl0
      gi_wp2
      go_end0
      exact ⟨⟨_, rfl⟩, .inl ⟨ss, ⟨hC.out.1, fun x => by rw [hC.out.2.1 x]; exact ⟨fun h => h.1, fun h => ⟨h, hl0 x⟩⟩⟩, hJs⟩⟩
    · intro x w2 cnt2 hLx hKx hrg2 hlt hg2 hs2 hen
      have hJ2 : J ss w2 := hJ ss wr w2 (some W.heap.size) hJs hg2 (fun r e => by cases e; exact ⟨Nat.le_refl _, hrg.iter_walk⟩)
      have hJ3 : J ss (w2.alloc (.cells #[.int .u64 (wdI x 0), .int .u64 (wdI x 1), .int .u64 (wdI x 2), .int .u64 (wdI x 3)] 29)) := hJ ss w2 _ none hJ2 (World.grownBy_alloc w2 _ none) (fun r e => by cases e)
      have hrg3 := hrg2.alloc (.cells #[.int .u64 (wdI x 0), .int .u64 (wdI x 1), .int .u64 (wdI x 2), .int .u64 (wdI x 3)] 29)
      obtain ⟨fn, tmps, assign, body, hy, hR⟩ := hY ss x _ hJ3 (by omega)
      clear hs2
      unfold vset at hen hy
      gi_wp2
      refine hR.mono ?_
      have hC2 : Hid ((ss ++ [x]).Nodup ∧ (∀ p, p ∈ ss ++ [x] ↔ K p ∧ ¬ (L p ∧ p ≠ x)) ∧ ∀ p, (L p ∧ p ≠ x) → K p) := Lib.hid (keys_step hC.out hLx)
      rintro e W3 (⟨rfl, hJ3, hk3⟩ | ⟨rfl, hJx3⟩)
      · have hrg4 := hrg3.of_walks hk3
        gi_wp2
        go_roundw
        case rel => exact ⟨_, cnt2, ss ++ [x], hrg4, by simp; omega, hC2, hJ3⟩
        case measure => rw [hrg4.left_eq, hrg.left_eq]; exact hlt
      · gi_wp2
        refine bodyPost_ret (results_none rfl _ _ _) rfl ?_
        exact ⟨⟨_, rfl⟩, .inr ⟨ss ++ [x], trivial, hJx3⟩⟩

theorem keys_stops (n : Nat) (hn : 1 ≤ n) (Bm b nn : Nat) (K : BS → Prop) (w : World) (hm : w.cell? ⟨Bm, 0, none⟩ = some (.map (some b))) (hM : MapS w b nn K) :
    SeqStopsK Fence.wide n Tryd.prog 59 #[.pointer (some ⟨Bm, 0, none⟩)] (fun x : BS => #[vset x]) KeepsWalks (fun ss => ss.Nodup ∧ ∀ x, x ∈ ss ↔ K x) (fun _ => True) nn w := by
  intro l J Jx W hW hJ _ hY h0
  exact keys1_in n hn l Bm b nn K J Jx hY W hJ ((hW.cell (p := ⟨Bm, 0, none⟩) (lt_of_cell hm)).trans hm) (hM.below hW hM.lt) h0

theorem keys_in (n b : Nat) (w : World) : CallsIn Fence.wide n Tryd.prog 49 #[.map (some b)] w fun e w' => e = .returned (.func (.func 59) #[] #[.pointer (some ⟨w.heap.size, 0, none⟩)]) ∧ w' = w.alloc (.cells #[.map (some b)] 73) := by
  refine callsIn_of_wp Tryd.func49 rfl trivial ?_ rfl
  simp only [Tryd.ntmps49, List.size_toArray, List.length_cons, List.length_nil, Nat.reduceAdd, Nat.reduceSub, Array.replicate_succ, Array.replicate_zero, List.push_toArray, List.append_toArray, List.nil_append, List.cons_append]
  gi_wp2
  go_ret
  exact ⟨rfl, rfl⟩
end Go.Proofs.YtegmoeeeomjkgaaDoor
end
section
namespace Go.Proofs.YtegmoeeeomjkgaaDoor
open Go Go.RowKit Go.Maps Go.Shelf

def cmpI (a b : Int) : Int := if a < b then -1 else if b < a then 1 else 0

theorem isNaN_any (a : Int) (w : World) : Calls Tryd.prog 60 #[.int .u8 a] w fun e w' => e = .returned (.bool false) ∧ w = w' := by
  go_enter Tryd.func60, Tryd.ntmps60
  go_wp2
  go_ret
  simp

theorem compare_any (a b : Int) (w : World) : Calls Tryd.prog 51 #[.int .u8 a, .int .u8 b] w fun e w' => e = .returned (.int .i64 (cmpI a b)) ∧ w = w' := by
  unfold cmpI
  by_cases h : a < b
  · rw [if_pos h]
    go_enter Tryd.func51, Tryd.ntmps51
    go_wp2_with (go_at_call 60; refine (isNaN_any _ _).mono ?_; rintro e w' ⟨rfl, rfl⟩)
    go_ret
    exact ⟨rfl, rfl⟩
  · rw [if_neg h]
    by_cases h2 : b < a
    · rw [if_pos h2]
      go_enter Tryd.func51, Tryd.ntmps51
      go_wp2_with (go_at_call 60; refine (isNaN_any _ _).mono ?_; rintro e w' ⟨rfl, rfl⟩)
      go_ret
      exact ⟨rfl, rfl⟩
    · rw [if_neg h2]
      go_enter Tryd.func51, Tryd.ntmps51
      go_wp2_with (go_at_call 60; refine (isNaN_any _ _).mono ?_; rintro e w' ⟨rfl, rfl⟩)
      go_ret
      exact ⟨rfl, rfl⟩

set_option maxRecDepth 100000 in
set_option maxHeartbeats 1000000 in
/-- The comparator of Split's sort: the least bytes. -/
theorem order_any (Bm b n : Nat) (K : BS → Prop) (s t : BS) (hs : K s) (ht : K t) (w : World) (hm : w.cell? ⟨Bm, 0, none⟩ = some (.map (some b))) (hM : MapS w b n K) :
    Calls Tryd.prog 50 #[vset s, vset t, .pointer (some ⟨Bm, 0, none⟩)] w fun e w' => e = .returned (.int .i64 (cmpI (lo s) (lo t))) ∧ w' = (((w.alloc (.cells (cset s) 29)).alloc (.cells (cset t) 29)).drew) := by
  have hbm : Bm < w.heap.size := lt_of_cell hm
  have e1 : ((w.alloc (.cells (cset s) 29)).alloc (.cells (cset t) 29)).heap.size = w.heap.size + 1 + 1 := by simp
  have hM2 := (hM.alloc (.cells (cset s) 29)).alloc (.cells (cset t) 29)
  have lo1 := fun W (h : MapS W b n K) => h.look s hs
  have lo2 := fun W (h : MapS W b n K) => h.look t ht
  have l1 : (Instr.lookup 73 (.map (some b)) (vset s) false).run Tryd.prog ((w.alloc (.cells (cset s) 29)).alloc (.cells (cset t) 29)).drew = .ok (.int .u8 (lo s)) ((w.alloc (.cells (cset s) 29)).alloc (.cells (cset t) 29)).drew := lo1 _ hM2
  have l2 : (Instr.lookup 73 (.map (some b)) (vset t) false).run Tryd.prog ((w.alloc (.cells (cset s) 29)).alloc (.cells (cset t) 29)).drew = .ok (.int .u8 (lo t)) ((w.alloc (.cells (cset s) 29)).alloc (.cells (cset t) 29)).drew := lo2 _ hM2
  unfold vset at l1 l2 ⊢
  have hA := ((Blk.new w 29 (cset s)).alloc (.cells (cset t) 29))
  have hB := (Blk.new (w.alloc (.cells (cset s) 29)) 29 (cset t))
  rw [World.size_alloc] at hB
  obtain ⟨X, hX⟩ : ∃ X, (w.alloc (.cells (cset s) 29)).alloc (.cells (cset t) 29) = X := ⟨_, rfl⟩
  have hmX : X.cell? ⟨Bm, 0, none⟩ = some (.map (some b)) := by
    rw [← hX, World.cell?_alloc_lt _ _ _ (by simp; omega), World.cell?_alloc_lt _ _ _ (by simpa using hbm)]; exact hm
  rw [hX] at hA hB l1 l2
  have a0 : X.drew.cell? ⟨w.heap.size, 0, none⟩ = some (.int .u64 (wdI s 0)) := hA.cell 0
  have a1 : X.drew.cell? ⟨w.heap.size, 1, none⟩ = some (.int .u64 (wdI s 1)) := hA.cell 1
  have a2 : X.drew.cell? ⟨w.heap.size, 2, none⟩ = some (.int .u64 (wdI s 2)) := hA.cell 2
  have a3 : X.drew.cell? ⟨w.heap.size, 3, none⟩ = some (.int .u64 (wdI s 3)) := hA.cell 3
  have b0 : X.drew.cell? ⟨w.heap.size + 1, 0, none⟩ = some (.int .u64 (wdI t 0)) := hB.cell 0
  have b1 : X.drew.cell? ⟨w.heap.size + 1, 1, none⟩ = some (.int .u64 (wdI t 1)) := hB.cell 1
  have b2 : X.drew.cell? ⟨w.heap.size + 1, 2, none⟩ = some (.int .u64 (wdI t 2)) := hB.cell 2
  have b3 : X.drew.cell? ⟨w.heap.size + 1, 3, none⟩ = some (.int .u64 (wdI t 3)) := hB.cell 3
  have m0 : X.drew.cell? ⟨Bm, 0, none⟩ = some (.map (some b)) := hmX
  clear lo1 lo2 hM hM2 hA hB hmX hm
  go_enter Tryd.func50, Tryd.ntmps50
  go_wp2
  have hX2 : (w.alloc (.cells #[.int .u64 (wdI s 0), .int .u64 (wdI s 1), .int .u64 (wdI s 2), .int .u64 (wdI s 3)] 29)).alloc (.cells #[.int .u64 (wdI t 0), .int .u64 (wdI t 1), .int .u64 (wdI t 2), .int .u64 (wdI t 3)] 29) = X := hX
  rw [hX2]
  go_region_held3 (fun W => (W = X.drew) ∧ (W.cell? ⟨w.heap.size, 0, none⟩ = some (.int .u64 (wdI s 0)) ∧ W.cell? ⟨w.heap.size, 1, none⟩ = some (.int .u64 (wdI s 1)) ∧ W.cell? ⟨w.heap.size, 2, none⟩ = some (.int .u64 (wdI s 2)) ∧ W.cell? ⟨w.heap.size, 3, none⟩ = some (.int .u64 (wdI s 3))))
    (first | assumption | go_keep) (first | (go_at_call 51; refine (compare_any _ _ _).mono ?_; rintro e w' ⟨rfl, rfl⟩))
  all_goals go_wp2
  all_goals go_ret
  all_goals exact ⟨rfl, rfl⟩
end Go.Proofs.YtegmoeeeomjkgaaDoor
end
section
namespace Go.Proofs.YtegmoeeeomjkgaaDoor
open Go Go.RowKit Go.Maps Go.Shelf

attribute [local go_sem] Oper.semAt_some

theorem KeepsOthers.walks {W W' : World} (h : KeepsOthers W W') : KeepsWalks W W' :=
  ⟨h.size, fun i o hi hw => h.same i o hi (by cases o <;> first | rfl | (simp [Obj.isWalk] at hw))⟩

theorem kw_b {w : World} (W : World) (l : Nat) (o o' : Obj) (_ : w.heap.size ≤ l) (h : W.heap[l]? = some o) (_ : o.isCells = false) (hw : o.isWalk = false) : KeepsWalks W (W.putObj l o') := KeepsWalks.putObj o' h hw

theorem blk_own {B : Nat} (j : Nat) (t : TypeId) (cs : Array Value) : OwnFrom B (fun (_ : Unit) W => Blk W j t cs) := by
  intro s W W' row h hg hr
  refine h.kept hg (fun e => ?_)
  obtain ⟨_, o, ho, hc⟩ := hr j e.symm
  rw [show W.heap[j]? = _ from h] at ho
  cases ho; cases hc

set_option maxRecDepth 100000 in
set_option maxHeartbeats 4000000 in
theorem appSeq_in (n : Nat) (hn : 2 ≤ n) (Bm b nn : Nat) (K : BS → Prop) (w : World) (hm : w.cell? ⟨Bm, 0, none⟩ = some (.map (some b))) (hM : MapS w b nn K) (hnn : nn ≤ 4294967296) :
    CallsIn Fence.wide n Tryd.prog 66 #[.slice none 0 0, .func (.func 59) #[] #[.pointer (some ⟨Bm, 0, none⟩)]] w fun e W' => ∃ v ss, e = .returned v ∧ (ss.Nodup ∧ ∀ x, x ∈ ss ↔ K x) ∧ W'.ownsRow w.heap.size 29 4 v ss.length (cellsB ss) ∧ Below w.heap.size w W' := by
  have h1 : 1 ≤ n := by omega
  obtain ⟨i29, hi29, hz0, hz1, hz2⟩ := info_parts Tryd.info29
  refine callsIn_of_wp_marks Tryd.func66 rfl trivial ?_ rfl
  simp only [Tryd.ntmps66, List.size_toArray, List.length_cons, List.length_nil, Nat.reduceAdd, Nat.reduceSub, Array.replicate_succ, Array.replicate_zero, List.push_toArray, List.append_toArray, List.nil_append, List.cons_append]
  gi_wp2
  have bO := Boxed.new w 43 (.slice none 0 0)
  have hB0 : Below w.heap.size w (w.alloc (.cells #[.slice none 0 0] 43)) := (Below.refl _ w).alloc (Nat.le_refl _) _
  have hsz : (w.alloc (.cells #[.slice none 0 0] 43)).heap.size = w.heap.size + 1 := by simp
  have hM0 := hM.alloc (.cells #[.slice none 0 0] 43)
  have hm0 : (w.alloc (.cells #[.slice none 0 0] 43)).cell? ⟨Bm, 0, none⟩ = some (.map (some b)) := by
    rw [World.cell?_alloc_lt _ _ _ (lt_of_cell hm)]; exact hm
  obtain ⟨W0, hW0⟩ : ∃ W0, w.alloc (.cells #[.slice none 0 0] 43) = W0 := ⟨_, rfl⟩
  rw [hW0] at bO hB0 hsz hM0 hm0 ⊢
  clear hW0
  refine wpIn_rangeFunc_ownH rfl h1 (gf := 59) (lb := #[.pointer (some ⟨Bm, 0, none⟩)]) rfl trivial (enters_of Tryd.func59 (by kernel_rfl) rfl)
    (keys_stops (n - 1) (by omega) Bm b nn K W0 hm0 hM0) KeepsWalks.trans kw_b (Below.refl _ _) (fun _ => rfl)
    (fun pre W => (∃ v, Boxed W w.heap.size 43 v ∧ W.ownsRow w.heap.size 29 4 v pre.length (cellsB pre) ∧ True) ∧ Below w.heap.size w W)
    (fun _ _ _ => False)
    (OwnFrom.and (Own.from (holdsRow_own w.heap.size w.heap.size 43 29 4 (fun pre : List BS => pre.length) (fun pre => cellsB pre) (fun _ _ => True)) _) (ownFrom_below (Nat.le_refl _) (by omega)))
    (fun _ _ _ _ _ hs _ _ => hs)
    ⟨⟨_, bO, World.ownsRow_nil _ _ _ _, trivial⟩, hB0⟩
    (fun x a' W => ∃ j, a' = { tmps := #[.slice none 0 0, .func (.func 59) #[] #[.pointer (some ⟨Bm, 0, none⟩)], .pointer (some ⟨w.heap.size, 0, none⟩), undef, .slice none 0 0, .pointer (some ⟨j, 0, none⟩), .func (.func 59) #[] #[.pointer (some ⟨Bm, 0, none⟩)], vset x, undef, undef, undef, undef, undef], defers := [] } ∧ Blk W j 29 (cset x)) ?ax ?assign ?body ?done ?stop
  case ax =>
    rintro x a' s W W' row ⟨j, e, hb⟩ hg hr
    exact ⟨j, e, blk_own j 29 (cset x) () W W' row hb hg hr⟩
  case assign =>
    rintro l pre x W K' ⟨⟨v, hv, hrow, _⟩, hB⟩ hK
    unfold vset
    gi_wp2
    exact hK _ _ ((KeepsOthers.alloc _ _).from _) (KeepsWalks.alloc _ _) ⟨⟨v, hv.alloc _, hrow.alloc _, trivial⟩, hB.alloc hB.size _⟩ ⟨W.heap.size, rfl, Blk.new W 29 _⟩
  case body =>
    rintro l pre x a' W hl hL ⟨⟨v, hv, hrow, _⟩, hB⟩ ⟨j, rfl, hb⟩ hlt
    have hc := hv.cell
    have x0 : W.cell? ⟨j, 0, none⟩ = some (.int .u64 (wdI x 0)) := hb.cell 0
    have x1 : W.cell? ⟨j, 1, none⟩ = some (.int .u64 (wdI x 1)) := hb.cell 1
    have x2 : W.cell? ⟨j, 2, none⟩ = some (.int .u64 (wdI x 2)) := hb.cell 2
    have x3 : W.cell? ⟨j, 3, none⟩ = some (.int .u64 (wdI x 3)) := hb.cell 3
    have hBs := hB.size
    gi_wp2_with (gi_at_builtin; refine wpListIn_append_own _ rfl _ _ 43 rfl w.heap.size 29 i29 _ 4 32 Tryd.underlying43 hi29 hz0 hz1 hz2 rfl (by decide) _ _ _ rfl (hrow.alloc _) ⟨W.heap.size, 0, none⟩ 1 1 [.int .u64 (wdI x 0), .int .u64 (wdI x 1), .int .u64 (wdI x 2), .int .u64 (wdI x 3)] rfl rfl (cell_four_new W _ _ _ _ 29) (by simp [Value.oneCell']) (by unfold maxLen; omega) (by omega) (by simp; omega) ?_; intro v' w1 hown' hgrow _; obtain ⟨g', cap', rfl⟩ := ownsRow_succ hown'; obtain ⟨hv1, hv2, hr2, hk2, hb2⟩ := hv.appended (by decide) hrow hBs (Nat.le_refl _) hown' hgrow; have hc1 := hv1.cell; have hf1 := hv1.frozen)
    refine ⟨hk2.from _, hk2.walks, ⟨_, hv2, ?_, trivial⟩, hB.trans hb2⟩
    rw [cellsB_snoc, List.length_append]
    exact hr2
  case done =>
    rintro D ys W hD hys ⟨⟨v, hv, hrow, _⟩, hB⟩ hK
    have hc := hv.cell
    gi_wp2
    refine ⟨by simp, .inl ⟨_, _, rfl, run_takeDeferred hK, ?_⟩⟩
    exact ⟨_, results_tmp rfl _ _ _, v, ys, rfl, hys, ownsRow_putObj hrow _ hK rfl, hB.trans (belowK_b (w := w) (Nat.le_refl _) W D _ _ (by omega) hK rfl rfl)⟩
  case stop =>
    rintro D c pre W _ _ h _
    exact h.elim

set_option maxHeartbeats 1000000 in
theorem collect_in (n : Nat) (hn : 3 ≤ n) (Bm b nn : Nat) (K : BS → Prop) (w : World) (hm : w.cell? ⟨Bm, 0, none⟩ = some (.map (some b))) (hM : MapS w b nn K) (hnn : nn ≤ 4294967296) :
    CallsIn Fence.wide n Tryd.prog 57 #[.func (.func 59) #[] #[.pointer (some ⟨Bm, 0, none⟩)]] w fun e W' => ∃ v ss, e = .returned v ∧ (ss.Nodup ∧ ∀ x, x ∈ ss ↔ K x) ∧ W'.ownsRow w.heap.size 29 4 v ss.length (cellsB ss) ∧ Below w.heap.size w W' := by
  have h1 : 1 ≤ n := by omega
  refine callsIn_of_wp Tryd.func57 rfl trivial ?_ rfl
  simp only [Tryd.ntmps57, List.size_toArray, List.length_cons, List.length_nil, Nat.reduceAdd, Nat.reduceSub, Array.replicate_succ, Array.replicate_zero, List.push_toArray, List.append_toArray, List.nil_append, List.cons_append]
  gi_wp2_with (refine ⟨trivial, ?_⟩; gi_at_call 66; refine (appSeq_in (n - 1) (by omega) Bm b nn K _ hm hM hnn).mono ?_; rintro e w' ⟨v, ss, rfl, hS, hrow, hb⟩)
  go_ret
  exact ⟨v, ss, rfl, hS, hrow, hb⟩

theorem collect_any (Bm b nn : Nat) (K : BS → Prop) (w : World) (hm : w.cell? ⟨Bm, 0, none⟩ = some (.map (some b))) (hM : MapS w b nn K) (hnn : nn ≤ 4294967296) :
    Calls Tryd.prog 57 #[.func (.func 59) #[] #[.pointer (some ⟨Bm, 0, none⟩)]] w fun e W' => ∃ v ss, e = .returned v ∧ (ss.Nodup ∧ ∀ x, x ∈ ss ↔ K x) ∧ W'.ownsRow w.heap.size 29 4 v ss.length (cellsB ss) ∧ Below w.heap.size w W' :=
  callsIn_wide.1 (collect_in 3 (Nat.le_refl _) Bm b nn K w hm hM hnn)
theorem keys_any (b : Nat) (w : World) : Calls Tryd.prog 49 #[.map (some b)] w fun e w' => e = .returned (.func (.func 59) #[] #[.pointer (some ⟨w.heap.size, 0, none⟩)]) ∧ w' = w.alloc (.cells #[.map (some b)] 73) :=
  callsIn_wide.1 (keys_in 3 b w)
end Go.Proofs.YtegmoeeeomjkgaaDoor
end
section
namespace Go.Proofs.YtegmoeeeomjkgaaDoor
open Go Go.RowKit Go.Maps Go.Shelf

/-- A part: the bytes that are alike to one byte. -/
def Part (l : List BS) (p : BS) : Prop := ∃ x, x < 256 ∧ ∀ c, c < 256 → p.getLsbD c = sameB l c x

theorem sameB_refl (l : List BS) (x : Nat) : sameB l x x = true := by simp [sameB]
theorem sameB_symm (l : List BS) (x y : Nat) : sameB l x y = sameB l y x := by
  unfold sameB; congr 1; funext s; cases s.getLsbD x <;> cases s.getLsbD y <;> rfl
theorem sameB_true {l : List BS} {x y : Nat} : sameB l x y = true ↔ ∀ s ∈ l, s.getLsbD x = s.getLsbD y := by simp [sameB]
theorem sameB_cong {l : List BS} {x y : Nat} (h : sameB l x y = true) (c : Nat) : sameB l c x = sameB l c y := by
  rw [sameB_true] at h
  apply Bool.eq_iff_iff.2
  rw [sameB_true, sameB_true]
  exact ⟨fun h2 s hs => (h2 s hs).trans (h s hs), fun h2 s hs => (h2 s hs).trans (h s hs).symm⟩

theorem part_ext {p q : BS} (h : ∀ c, c < 256 → p.getLsbD c = q.getLsbD c) : p = q := BitVec.eq_of_getLsbD_eq fun i hi => h i hi

/-- A part is told by each of its bytes. -/
theorem Part.at {l : List BS} {p : BS} (h : Part l p) {y : Nat} (hy : y < 256) (hp : p.getLsbD y = true) : ∀ c, c < 256 → p.getLsbD c = sameB l c y := by
  obtain ⟨x, hx, hc⟩ := h
  have h1 := hc y hy
  rw [hp] at h1
  intro c hcc
  rw [hc c hcc]
  exact (sameB_cong h1.symm c).symm
theorem Part.eq {l : List BS} {p q : BS} (hp : Part l p) (hq : Part l q) {y : Nat} (hy : y < 256) (h1 : p.getLsbD y = true) (h2 : q.getLsbD y = true) : p = q :=
  part_ext fun c hc => by rw [hp.at hy h1 c hc, hq.at hy h2 c hc]

theorem lo_mem {p : BS} {x : Nat} (hx : x < 256) (h : p.getLsbD x = true) : p.getLsbD (lo p) = true := by
  have hm : x ∈ bytesL p := (mem_bytesL p x).2 ⟨hx, h⟩
  unfold lo
  cases hb : bytesL p with
  | nil => rw [hb] at hm; cases hm
  | cons y t => exact ((mem_bytesL p y).1 (by rw [hb]; simp)).2
theorem Part.lo {l : List BS} {p : BS} (h : Part l p) : p.getLsbD (lo p) = true := by
  obtain ⟨x, hx, hc⟩ := h
  exact lo_mem hx (by rw [hc x hx, sameB_refl])

theorem nodup_le (N : Nat) : ∀ (l : List Nat), l.Nodup → (∀ x ∈ l, x < N) → l.length ≤ N := by
  intro l hn hl
  have h := (List.nodup_range (n := N)).sublist (List.filter_sublist (p := fun x => decide (x ∈ l)) (l := List.range N))
  have hp : l.Perm ((List.range N).filter fun x => decide (x ∈ l)) := by
    refine (List.perm_ext_iff_of_nodup hn h).2 fun x => ?_
    simp only [List.mem_filter, List.mem_range, decide_eq_true_eq]
    exact ⟨fun hx => ⟨hl x hx, hx⟩, fun hx => hx.2⟩
  rw [hp.length_eq]
  have := List.length_filter_le (fun x => decide (x ∈ l)) (List.range N)
  simpa using this
/-- At most 256 parts. -/
theorem part_card {l : List BS} (ss : List BS) (hn : ss.Nodup) (h : ∀ s ∈ ss, Part l s) : ss.length ≤ 256 := by
  have h2 : (ss.map lo).Nodup := by
    refine List.pairwise_map.2 (hn.imp_of_mem fun {a b} ha hb hne e => hne ?_)
    have h3 := (h b hb).lo
    rw [← e] at h3
    exact Part.eq (h a ha) (h b hb) (lo_lt a) (h a ha).lo h3
  have := nodup_le 256 _ h2 (fun x hx => by
    obtain ⟨s, _, rfl⟩ := List.mem_map.1 hx
    exact lo_lt s)
  simpa using this

/-- A map has no more entries than there are sets among its keys. -/
theorem MapS.tight {w : World} {b n N : Nat} {K : BS → Prop} (h : MapS w b n K) (hN : ∀ ss : List BS, ss.Nodup → (∀ s ∈ ss, K s) → ss.length ≤ N) : MapS w b N K := by
  obtain ⟨D, hown, hh, hat⟩ := h
  obtain ⟨es, hD, hp, _⟩ := hown.entries key29
  have hk : ∀ p ∈ es, KeysOf Tryd.prog 29 p.1 := by
    obtain ⟨es0, clock0, _, F0, _, hD2⟩ := hown
    rw [hD] at hD2
    injection hD2 with hD2
    rw [hD2]
    exact fun p hp => fit_keys F0 p (mem_sorted.1 hp)
  obtain ⟨es2, rfl⟩ : ∃ es2, es2 = es := ⟨_, rfl⟩
  have hs : ∀ p ∈ es2, ∃ s, p.1 = lk s := fun p hp => by
    obtain ⟨v, hv⟩ := hk p hp
    obtain ⟨s, _, e⟩ := key_inv hv
    exact ⟨s, e⟩
  haveI : Inhabited BS := ⟨0#256⟩
  have hf : ∃ f : Lit → BS, ∀ p ∈ es2, p.1 = lk (f p.1) := by
    classical
    refine ⟨fun l => if h : ∃ s, l = lk s then h.choose else 0#256, fun p hp => ?_⟩
    have h := hs p hp
    simp only [dif_pos h]
    exact h.choose_spec
  obtain ⟨f, hf⟩ := hf
  have hlen : (es2.map fun p => f p.1).length ≤ N := by
    refine hN _ ?_ fun s hs => ?_
    · refine List.pairwise_map.2 (hp.imp_of_mem fun {a b} ha hb hne e => hne ?_)
      rw [hf a ha, hf b hb, e]
    · obtain ⟨p, hp, rfl⟩ := List.mem_map.1 hs
      refine (hh _).1 ?_
      rw [hD, has_eq, List.any_eq_true]
      refine ⟨p, hp, ?_⟩
      rw [← hf p hp]
      have := lk_key (f p.1)
      rw [← hf p hp] at this
      exact WideAt.sameKey_self this
  refine ⟨D, ?_, hh, hat⟩
  obtain ⟨es3, clock, e1, e2, e3, e4⟩ := hown
  refine ⟨es3, clock, e1, e2, ?_, e4⟩
  have h5 : (DataW.map es2 : DataW Unit) = .map _ := hD.symm.trans e4
  injection h5 with h5
  rw [List.length_map, h5, length_read] at hlen
  exact hlen
end Go.Proofs.YtegmoeeeomjkgaaDoor
end
section
namespace Go.Proofs.YtegmoeeeomjkgaaDoor
open Go Go.RowKit Go.Maps Go.Shelf

theorem exists_bs (f : Nat → Bool) : ∃ q : BS, ∀ c, c < 256 → q.getLsbD c = f c := by
  have h : ∀ n, n ≤ 256 → ∃ q : BS, ∀ c, c < 256 → q.getLsbD c = (decide (c < n) && f c) := by
    intro n
    induction n with
    | zero => intro _; exact ⟨0#256, fun c _ => by simp⟩
    | succ n ih =>
      intro hn
      obtain ⟨q, hq⟩ := ih (by omega)
      cases hf : f n with
      | true =>
        refine ⟨withB q n, fun c hc => ?_⟩
        rw [withB_bit _ _ _ (by omega), hq c hc]
        by_cases e : n = c
        · subst e; simp [hf]
        · have : decide (c < n + 1) = decide (c < n) := decide_eq_decide.2 (by omega)
          simp [e, this]
      | false =>
        refine ⟨q, fun c hc => ?_⟩
        rw [hq c hc]
        by_cases e : n = c
        · subst e; simp [hf]
        · have : decide (c < n + 1) = decide (c < n) := decide_eq_decide.2 (by omega)
          rw [this]
  obtain ⟨q, hq⟩ := h 256 (Nat.le_refl _)
  exact ⟨q, fun c hc => by rw [hq c hc]; simp [hc]⟩

theorem notBit (s : BS) (c : Nat) (hc : c < 256) : (~~~s).getLsbD c = !s.getLsbD c := by simp [hc]

/-- A set that cuts a part has a byte of it, and has one not. -/
theorem cut_true {s p : BS} : cutB s p = true ↔ (∃ y, y < 256 ∧ p.getLsbD y = true ∧ s.getLsbD y = true) ∧ ∃ y, y < 256 ∧ p.getLsbD y = true ∧ s.getLsbD y = false := by
  have h1 : (p &&& s = 0#256) ↔ ¬ ∃ y, y < 256 ∧ p.getLsbD y = true ∧ s.getLsbD y = true := by
    constructor
    · rintro h ⟨y, hy, h1, h2⟩
      have := congrArg (fun q : BS => q.getLsbD y) h
      simp [h1, h2] at this
    · intro h
      refine part_ext fun c hc => ?_
      simp only [BitVec.getLsbD_and, BitVec.getLsbD_zero]
      cases e1 : p.getLsbD c with
      | false => rfl
      | true =>
        cases e2 : s.getLsbD c with
        | false => rfl
        | true => exact absurd ⟨c, hc, e1, e2⟩ h
  have h2 : (p &&& s = p) ↔ ¬ ∃ y, y < 256 ∧ p.getLsbD y = true ∧ s.getLsbD y = false := by
    constructor
    · rintro h ⟨y, hy, h1, h2⟩
      have := congrArg (fun q : BS => q.getLsbD y) h
      simp [h1, h2] at this
    · intro h
      refine part_ext fun c hc => ?_
      simp only [BitVec.getLsbD_and]
      cases e1 : p.getLsbD c with
      | false => rfl
      | true =>
        cases e2 : s.getLsbD c with
        | true => rfl
        | false => exact absurd ⟨c, hc, e1, e2⟩ h
  unfold cutB
  simp only [Bool.and_eq_true, Bool.not_eq_true', beq_eq_false_iff_ne, ne_eq]
  rw [h1, h2]
  simp only [Classical.not_not]

/-- The keys, the parts of C having been cut one after the other. -/
def cutK (K : BS → Prop) (s : BS) (C : List BS) : BS → Prop := C.foldl (fun K q => fun p => p = q &&& ~~~s ∨ (p = q &&& s ∨ (K p ∧ p ≠ q))) K
theorem cutK_snoc (K : BS → Prop) (s q : BS) (C : List BS) : cutK K s (C ++ [q]) = fun p => p = q &&& ~~~s ∨ (p = q &&& s ∨ (cutK K s C p ∧ p ≠ q)) := by
  simp [cutK, List.foldl_append]

/-- A piece of a part that is cut shares a byte with it. -/
theorem piece_byte {s q p : BS} (hc : cutB s q = true) (h : p = q &&& s ∨ p = q &&& ~~~s) : ∃ y, y < 256 ∧ p.getLsbD y = true ∧ q.getLsbD y = true := by
  obtain ⟨⟨y, hy, h1, h2⟩, z, hz, h3, h4⟩ := cut_true.1 hc
  rcases h with rfl | rfl
  · exact ⟨y, hy, by simp [h1, h2], h1⟩
  · exact ⟨z, hz, by rw [BitVec.getLsbD_and, notBit _ _ hz, h3, h4]; rfl, h3⟩

theorem list_snoc_ind {P : List BS → Prop} (h0 : P []) (h1 : ∀ l x, P l → P (l ++ [x])) (l : List BS) : P l := by
  have : ∀ n (l : List BS), l.length = n → P l := by
    intro n
    induction n with
    | zero => intro l hl; rw [List.length_eq_zero_iff.1 hl]; exact h0
    | succ n ih =>
      intro l hl
      rcases List.eq_nil_or_concat l with rfl | ⟨l', x, rfl⟩
      · exact h0
      · rw [List.concat_eq_append] at hl ⊢
        exact h1 l' x (ih l' (by simpa using hl))
  exact this _ l rfl

theorem cutK_iff (l : List BS) (s : BS) (C : List BS) (hn : C.Nodup) (hC : ∀ p ∈ C, Part l p ∧ cutB s p = true) (p : BS) :
    cutK (Part l) s C p ↔ (Part l p ∧ p ∉ C) ∨ ∃ q ∈ C, p = q &&& s ∨ p = q &&& ~~~s := by
  revert hn hC p
  refine list_snoc_ind (P := fun C => C.Nodup → (∀ p ∈ C, Part l p ∧ cutB s p = true) → ∀ p, cutK (Part l) s C p ↔ (Part l p ∧ p ∉ C) ∨ ∃ q ∈ C, p = q &&& s ∨ p = q &&& ~~~s) ?_ ?_ C
  · intro _ _ p; simp [cutK]
  · intro C q ih hn hC p
    rw [List.nodup_append] at hn
    have hq := hC q (by simp)
    have ih2 := ih hn.1 (fun p hp => hC p (by simp [hp])) p
    have hqC : q ∉ C := fun h => hn.2.2 q h q (by simp) rfl
    rw [cutK_snoc]
    show (p = q &&& ~~~s ∨ (p = q &&& s ∨ (cutK (Part l) s C p ∧ p ≠ q))) ↔ _
    rw [ih2]
    constructor
    · rintro (h | h | ⟨⟨h1, h2⟩ | ⟨q', hq', h⟩, h3⟩)
      · exact .inr ⟨q, by simp, .inr h⟩
      · exact .inr ⟨q, by simp, .inl h⟩
      · exact .inl ⟨h1, by simp [h2, h3]⟩
      · exact .inr ⟨q', by simp [hq'], h⟩
    · rintro (⟨h1, h2⟩ | ⟨q', hq', h⟩)
      · simp at h2
        exact .inr (.inr ⟨.inl ⟨h1, h2.1⟩, h2.2⟩)
      · rw [List.mem_append, List.mem_singleton] at hq'
        rcases hq' with hq' | rfl
        · refine .inr (.inr ⟨.inr ⟨q', hq', h⟩, fun e => ?_⟩)
          have hq2 := hC q' (by simp [hq'])
          obtain ⟨y, hy, hp1, hp2⟩ := piece_byte hq2.2 h
          rw [e] at hp1
          have := Part.eq hq.1 hq2.1 hy hp1 hp2
          rw [this] at hqC
          exact hqC hq'
        · rcases h with h | h
          · exact .inr (.inl h)
          · exact .inl h

theorem sameB_app (l : List BS) (s : BS) (c x : Nat) : sameB (l ++ [s]) c x = (sameB l c x && (s.getLsbD c == s.getLsbD x)) := by simp [sameB, List.all_append]

/-- The parts of one set more. -/
theorem part_step (l : List BS) (s : BS) (C : List BS) (hn : C.Nodup) (hC : ∀ p, p ∈ C ↔ Part l p ∧ cutB s p = true) (p : BS) : cutK (Part l) s C p ↔ Part (l ++ [s]) p := by
  rw [cutK_iff l s C hn (fun p hp => (hC p).1 hp)]
  have hnocut : ∀ q x, x < 256 → (∀ c, c < 256 → q.getLsbD c = sameB l c x) → cutB s q ≠ true → ∀ c, c < 256 → q.getLsbD c = sameB (l ++ [s]) c x := by
    intro q x hx hq hcut c hc
    rw [sameB_app, hq c hc]
    cases e : sameB l c x with
    | false => rfl
    | true =>
      have hqx : q.getLsbD x = true := by rw [hq x hx, sameB_refl]
      have hqc : q.getLsbD c = true := by rw [hq c hc, e]
      cases e1 : s.getLsbD c <;> cases e2 : s.getLsbD x
      · rfl
      · exact absurd (cut_true.2 ⟨⟨x, hx, hqx, e2⟩, c, hc, hqc, e1⟩) hcut
      · exact absurd (cut_true.2 ⟨⟨c, hc, hqc, e1⟩, x, hx, hqx, e2⟩) hcut
      · rfl
  constructor
  · rintro (⟨⟨x, hx, hp⟩, h2⟩ | ⟨q, hq, h⟩)
    · have hcut : cutB s p ≠ true := fun h => h2 ((hC p).2 ⟨⟨x, hx, hp⟩, h⟩)
      exact ⟨x, hx, hnocut p x hx hp hcut⟩
    · obtain ⟨hqP, hcut⟩ := (hC q).1 hq
      obtain ⟨⟨y, hy, h1, h2⟩, z, hz, h3, h4⟩ := cut_true.1 hcut
      rcases h with rfl | rfl
      · refine ⟨y, hy, fun c hc => ?_⟩
        rw [sameB_app, BitVec.getLsbD_and, hqP.at hy h1 c hc, h2]
        cases s.getLsbD c <;> simp
      · refine ⟨z, hz, fun c hc => ?_⟩
        rw [sameB_app, BitVec.getLsbD_and, hqP.at hz h3 c hc, h4, notBit _ _ hc]
        cases s.getLsbD c <;> simp
  · rintro ⟨x, hx, hp⟩
    obtain ⟨q, hq⟩ := exists_bs (fun c => sameB l c x)
    have hqP : Part l q := ⟨x, hx, hq⟩
    by_cases hcut : cutB s q = true
    · refine .inr ⟨q, (hC q).2 ⟨hqP, hcut⟩, ?_⟩
      cases e : s.getLsbD x with
      | true =>
        refine .inl (part_ext fun c hc => ?_)
        rw [hp c hc, sameB_app, BitVec.getLsbD_and, hq c hc, e]
        cases s.getLsbD c <;> simp
      | false =>
        refine .inr (part_ext fun c hc => ?_)
        rw [hp c hc, sameB_app, BitVec.getLsbD_and, hq c hc, e, notBit _ _ hc]
        cases s.getLsbD c <;> simp
    · have hpq : p = q := part_ext fun c hc => by rw [hp c hc, hnocut q x hx hq hcut c hc]
      subst hpq
      exact .inl ⟨hqP, fun h => hcut ((hC p).1 h).2⟩
end Go.Proofs.YtegmoeeeomjkgaaDoor
end
section
namespace Go.Proofs.YtegmoeeeomjkgaaDoor
open Go Go.RowKit Go.Maps Go.Shelf

theorem lo_full : lo full = 0 := by kernel_rfl
theorem part_nil (p : BS) : (p = full ∨ False) ↔ Part [] p := by
  constructor
  · rintro (rfl | h)
    · exact ⟨0, by omega, fun c hc => by rw [show full = ~~~0#256 from rfl, notBit _ _ hc]; simp [sameB]⟩
    · exact h.elim
  · rintro ⟨x, _, h⟩
    exact .inl (part_ext fun c hc => by rw [h c hc, show full = ~~~0#256 from rfl, notBit _ _ hc]; simp [sameB])

/-- What the sort of the keys must hand back. -/
def SortsS : Prop := ∀ (Bk Bm b n : Nat) (l : List BS) (w : World), w.cell? ⟨Bk, 0, none⟩ = some (.map (some b)) → w.cell? ⟨Bm, 0, none⟩ = some (.map (some b)) → MapS w b n (Part l) → n ≤ 256 →
  Calls Tryd.prog 48 #[.func (.func 59) #[] #[.pointer (some ⟨Bk, 0, none⟩)], .func (.func 50) #[] #[.pointer (some ⟨Bm, 0, none⟩)]] w fun e W' => ∃ v, e = .returned v ∧ W'.ownsRow w.heap.size 29 4 v (splitL l).length (cellsB (splitL l)) ∧ Below w.heap.size w W'

theorem MapS.put {w : World} {b n : Nat} {K : BS → Prop} (h : MapS w b n K) (hn : n < maxLen) (s : BS) :
    ∃ w', (Instr.mapUpdate 73 (.map (some b)) (vset s) (.int .u8 (lo s))).run Tryd.prog w = .ok () w' ∧ MapS w' b (n + 1) (fun t => t = s ∨ K t) ∧ w.grownBy w' (some b) := by
  obtain ⟨D, hown, hh, hat⟩ := h
  obtain ⟨w', hrun, r1, r2⟩ := hown.store key29 Tryd.underlying73 hn (key_lk s) (el5_of (lo s) (lo_lt s))
  refine ⟨w', hrun, ⟨_, r1, fun t => put_has hown.isMap s hh _ t, fun t ht z => ?_⟩, r2.grown⟩
  by_cases e : t = s
  · subst e; exact atKey_put_same hown.isMap (lk_key t) _ _
  · rw [atKey_put_other (fun e2 => e (lk_inj e2))]
    exact hat t (ht.resolve_left e) z
theorem grown_of_below {w w' : World} (h : Below w.heap.size w w') (row : Option Nat) : w.grownBy w' row := ⟨h.os, h.tape, h.output, h.size, fun i hi _ => h.block i hi⟩
theorem grown_more {x y z : World} {b : Nat} (h : x.grownBy y (some b)) (k : y.grownBy z (some b)) : x.grownBy z (some b) := h.andThen k (fun j e => .inr e)
theorem least_lo (s : BS) : ∃ ok, leastV (bytesL s) = .tuple #[.int .u8 (lo s), .bool ok] := by
  unfold lo
  cases bytesL s with
  | nil => exact ⟨false, rfl⟩
  | cons x t => exact ⟨true, rfl⟩
/-- The keys while a part's two pieces are laid in. -/
def k3 (K : BS → Prop) (q s : BS) : Nat → BS → Prop
  | 0 => fun p => K p ∧ p ≠ q
  | 1 => fun p => p = q &&& s ∨ (K p ∧ p ≠ q)
  | _ => fun p => p = q &&& ~~~s ∨ (p = q &&& s ∨ (K p ∧ p ≠ q))
theorem ix75_0 (a b c d a' b' c' d' : Int) (w : World) : (Instr.index 75 (.agg #[.int .u64 a, .int .u64 b, .int .u64 c, .int .u64 d, .int .u64 a', .int .u64 b', .int .u64 c', .int .u64 d']) (.int .i64 0)).run Tryd.prog w = .ok (.agg #[.int .u64 a, .int .u64 b, .int .u64 c, .int .u64 d]) w := by kernel_rfl
theorem ix75_1 (a b c d a' b' c' d' : Int) (w : World) : (Instr.index 75 (.agg #[.int .u64 a, .int .u64 b, .int .u64 c, .int .u64 d, .int .u64 a', .int .u64 b', .int .u64 c', .int .u64 d']) (.int .i64 1)).run Tryd.prog w = .ok (.agg #[.int .u64 a', .int .u64 b', .int .u64 c', .int .u64 d']) w := by kernel_rfl

set_option maxRecDepth 100000 in
set_option maxHeartbeats 8000000 in
theorem split_any (HS : SortsS) (a : Option Addr) (cap : Nat) (l : List BS) (w : World) (hG : Glob w) (hd : RowB w a l) (hl : l.length ≤ 281474976710656) :
    Calls Tryd.prog 34 #[.slice a l.length cap] w fun e W' => ∃ v, e = .returned v ∧ W'.ownsRow w.heap.size 29 4 v (splitL l).length (cellsB (splitL l)) ∧ Below w.heap.size w W' := by
  have hmm := @run_makeMap Tryd.prog
  have HD := Lib.hid hd
  have HG := Lib.hid hG
  have HAll := fun w' => Lib.hid (all_any w')
  clear hd hG
  unfold vset at HAll
  go_enter Tryd.func34, Tryd.ntmps34
  go_wp2_with fail
  refine (HAll _).out.mono ?_
  rintro e w1 ⟨rfl, hB1⟩
  have hM1 : MapS w1 w.heap.size 0 (fun _ => False) := (MapS.made w).below hB1 (by simp)
  have hB1' : Hid (Below w.heap.size w w1) := Lib.hid (((Below.refl _ w).alloc (Nat.le_refl _) _).trans (hB1.mono (by simp)))
  have hs1 : w.heap.size < w1.heap.size := hM1.lt
  clear hB1 hmm HAll
  obtain ⟨w2, hrun, hM2, hg2⟩ := hM1.put (by unfold maxLen; omega) full
  rw [lo_full] at hrun
  replace hrun : (Instr.mapUpdate 73 (.map (some w.heap.size)) (.agg #[.int .u64 (wdI full 0), .int .u64 (wdI full 1), .int .u64 (wdI full 2), .int .u64 (wdI full 3)]) (.int .u8 0)).run Tryd.prog w1 = .ok () w2 := hrun
  have hM2' : MapS w2 w.heap.size 1 (Part []) := hM2.of_iff part_nil
  have hB2 : Hid (Below w.heap.size w w2) := Lib.hid (hB1'.out.grown hg2 hB1'.out.size (fun j e => by cases e; exact Nat.le_refl _))
  have hs2 : w.heap.size < w2.heap.size := hM2.lt
  clear hM1 hM2 hg2 hB1'
  go_wp2
  obtain ⟨Bm, hBm⟩ : ∃ Bm, Bm = w2.heap.size := ⟨_, rfl⟩
  have hM3 := hM2'.alloc (.cells #[.map (some w.heap.size)] 73)
  have hP3 := Blk.new w2 73 #[.map (some w.heap.size)]
  have hB3 : Hid (Below w.heap.size w (w2.alloc (.cells #[.map (some w.heap.size)] 73))) := Lib.hid (hB2.out.alloc hB2.out.size _)
  rw [← hBm] at hP3 ⊢
  have hlb : w.heap.size < Bm := by omega
  clear hM2' hB2 hrun
  generalize w2.alloc (.cells #[.map (some w.heap.size)] 73) = w3 at hM3 hP3 hB3 ⊢
  clear hBm hs2 hs1
  go_loopw [15] (fun i wr => ∃ (k n : Nat), i = .int .i64 k ∧ k ≤ l.length ∧ n ≤ 256 ∧ MapS wr w.heap.size n (Part (l.take k)) ∧ Hid (Blk wr Bm 73 #[.map (some w.heap.size)]) ∧ Hid (Below w.heap.size w wr))
    (fun i _ => l.length - (intOf i).toNat)
  case atStart => exact ⟨0, 1, rfl, Nat.zero_le _, by omega, hM3, hP3, hB3⟩
  case round =>
    clear hM3 hP3 hB3
    obtain ⟨k, n, rfl, hk, hn, hM, hP, hB⟩ := hrel
    by_cases hlt : k < l.length
    · have HX : Hid (l[k]? = some l[k]) := Lib.hid (List.getElem?_eq_getElem hlt)
      obtain ⟨x, hx⟩ : ∃ x, l[k] = x := ⟨_, rfl⟩
      rw [hx] at HX
      clear hx
      have HT : Hid (l.take (k + 1) = l.take k ++ [x]) := by
        refine Lib.hid ?_
        rw [List.take_add_one, HX.out]; rfl
      obtain ⟨bx, ox, rfl, e0, e1, e2, e3⟩ := HD.out k _ HX.out
      have bl : bx < w.heap.size := lt_of_cell e0
      have r0 : wr.cell? ⟨bx, ox + k * 4, none⟩ = some (.int .u64 (wdI x 0)) := (hB.out.cell (p := ⟨bx, _, none⟩) bl).trans e0
      have r1 : wr.cell? ⟨bx, ox + k * 4 + 1, none⟩ = some (.int .u64 (wdI x 1)) := (hB.out.cell (p := ⟨bx, _, none⟩) bl).trans e1
      have r2 : wr.cell? ⟨bx, ox + k * 4 + 2, none⟩ = some (.int .u64 (wdI x 2)) := (hB.out.cell (p := ⟨bx, _, none⟩) bl).trans e2
      have r3 : wr.cell? ⟨bx, ox + k * 4 + 3, none⟩ = some (.int .u64 (wdI x 3)) := (hB.out.cell (p := ⟨bx, _, none⟩) bl).trans e3
      clear e0 e1 e2 e3
      have m0 : wr.cell? ⟨Bm, 0, none⟩ = some (.map (some w.heap.size)) := hP.out.cell 0
      have hml : Bm < wr.heap.size := hP.out.lt
      have HC := fun W (h : MapS W w.heap.size n (Part (l.take k))) => Lib.hid (cut_any w.heap.size n _ x W h (by omega))
      unfold vset at HC
      go_wp2_with fail
      refine (HC _ (hM.alloc _)).out.mono ?_
      rintro e w4 ⟨v, C, rfl, hCn, hC, hO4, hCl, hB4⟩
      have hX4 : Blk w4 wr.heap.size 29 (cset x) := (Blk.new wr 29 (cset x)).below hB4 (by simp)
      have hbr : w.heap.size < wr.heap.size := hM.lt
      have hM4 : MapS w4 w.heap.size n (Part (l.take k)) := (hM.alloc (.cells (cset x) 29)).below hB4 (by simp; omega)
      have hP4 : Blk w4 Bm 73 #[.map (some w.heap.size)] := (hP.out.alloc (.cells (cset x) 29)).below hB4 (by simp; omega)
      have hB4' : Hid (Below w.heap.size w w4) := Lib.hid ((hB.out.alloc hB.out.size _).trans (hB4.mono (by simp; omega)))
      have hO5 : Hid (w4.ownsRow (w.heap.size + 1) 29 4 v C.length (cellsB C)) := Lib.hid (own_mono hO4 (by simp; omega))
      have HCn := Lib.hid hCn
      have HCC := Lib.hid hC
      clear r0 r1 r2 r3 m0 hml HC hO4 hB4 hM hP hB hCn hC
      generalize wr.heap.size = Bx at *
      obtain ⟨ac, cc, rfl, _⟩ := owned_rowB hO5.out
      obtain ⟨wo, rfl⟩ : ∃ wo : World, wo = w4 := ⟨_, rfl⟩
      go_wp2
      have hk2 : decide ((k : Int) < (l.length : Int)) = true := by simp; omega
      try simp only [hk2]
      clear hk2
      have hxl : Bx < wo.heap.size := hX4.lt
      have hml : Bm < wo.heap.size := hP4.lt
      have HX4 := Lib.hid hX4
      have HP4 := Lib.hid hP4
      clear hX4 hP4
      go_loopw [23] (fun i wr => ∃ j : Nat, i = .int .i64 j ∧ j ≤ C.length ∧ MapS wr w.heap.size (n + 2 * j) (cutK (Part (l.take k)) x (C.take j)) ∧ Hid (wo.grownBy wr (some w.heap.size)))
        (fun i _ => C.length - (intOf i).toNat)
      case atStart => exact ⟨0, rfl, Nat.zero_le _, hM4, (Below.refl wo.heap.size wo |> fun h => grown_of_below h _)⟩
      case round =>
        clear hM4
        obtain ⟨j, rfl, hj, hM, hg⟩ := hrel
        have HP := Lib.hid (HP4.out.kept hg.out (by simp; omega))
        have HXb := Lib.hid (HX4.out.kept hg.out (by simp; omega))
        by_cases hjlt : j < C.length
        · have HY : Hid (C[j]? = some C[j]) := Lib.hid (List.getElem?_eq_getElem hjlt)
          obtain ⟨q, hq⟩ : ∃ q, C[j] = q := ⟨_, rfl⟩
          rw [hq] at HY
          clear hq
          have HTC : Hid (C.take (j + 1) = C.take j ++ [q]) := by
            refine Lib.hid ?_
            rw [List.take_add_one, HY.out]; rfl
          obtain ⟨gC, rfl⟩ := ownsRow_pos hO5.out (by omega)
          have hOr := hO5.out.kept hg.out (.inr (Ne.symm (row_ne_low hO5.out (Nat.lt_succ_self _))))
          obtain ⟨p0, p1, p2, p3⟩ := cellsB_at C j q HY.out
          have c0 : wr.cell? ⟨gC, j * 4, none⟩ = some (.int .u64 (wdI q 0)) := (hOr.cellAt (j * 4) (by omega)).trans p0
          have c1 : wr.cell? ⟨gC, j * 4 + 1, none⟩ = some (.int .u64 (wdI q 1)) := (hOr.cellAt (j * 4 + 1) (by omega)).trans p1
          have c2 : wr.cell? ⟨gC, j * 4 + 2, none⟩ = some (.int .u64 (wdI q 2)) := (hOr.cellAt (j * 4 + 2) (by omega)).trans p2
          have c3 : wr.cell? ⟨gC, j * 4 + 3, none⟩ = some (.int .u64 (wdI q 3)) := (hOr.cellAt (j * 4 + 3) (by omega)).trans p3
          have m0 : wr.cell? ⟨Bm, 0, none⟩ = some (.map (some w.heap.size)) := HP.out.cell 0
          have hmlr : Bm < wr.heap.size := HP.out.lt
          have hxlr : Bx < wr.heap.size := HXb.out.lt
          clear p0 p1 p2 p3 hOr
          go_upto_region 9 with (first
            | (at_delete; refine wpList_delS _ rfl _ _ rfl w.heap.size _ _ rfl (hM.alloc _) q rfl ?_; intro w5 hM5 ht5; go_frame)
            | fail)
          have hbr2 : w.heap.size < wr.heap.size := hM.lt
          have hg5 : Hid (wo.grownBy w5 (some w.heap.size)) := Lib.hid (grown_more (grown_more hg.out ((World.grownBy_alloc wr (.cells (cset q) 29) none).but _)) ht5.grown)
          have HP5 := Lib.hid (HP4.out.kept hg5.out (by simp; omega))
          have HX5 := Lib.hid (HX4.out.kept hg5.out (by simp; omega))
          have HQ5 : Hid (Blk w5 wr.heap.size 29 (cset q)) := Lib.hid ((Blk.new wr 29 (cset q)).kept ht5.grown (by simp; omega))
          have hql5 : wr.heap.size < w5.heap.size := HQ5.out.lt
          have hbl5 : w.heap.size < w5.heap.size := hM5.lt
          clear c0 c1 c2 c3 m0 hM ht5 hg HP HXb
          generalize wr.heap.size = Bq at *
          have HMt0 := meet_any q x
          have HWt0 := without_any q x
          unfold vset at HMt0 HWt0
          have HMt := fun w' => Lib.hid (HMt0 w')
          have HWt := fun w' => Lib.hid (HWt0 w')
          clear HMt0 HWt0
          have HKeep : Hid (∀ W W', Below w5.heap.size w5 W → Below W.heap.size W W' → Below w5.heap.size w5 W' ∧ (W'.cell? ⟨Bq, 0, none⟩ = some (.int .u64 (wdI q 0)) ∧ W'.cell? ⟨Bq, 1, none⟩ = some (.int .u64 (wdI q 1)) ∧ W'.cell? ⟨Bq, 2, none⟩ = some (.int .u64 (wdI q 2)) ∧ W'.cell? ⟨Bq, 3, none⟩ = some (.int .u64 (wdI q 3))) ∧ (W'.cell? ⟨Bx, 0, none⟩ = some (.int .u64 (wdI x 0)) ∧ W'.cell? ⟨Bx, 1, none⟩ = some (.int .u64 (wdI x 1)) ∧ W'.cell? ⟨Bx, 2, none⟩ = some (.int .u64 (wdI x 2)) ∧ W'.cell? ⟨Bx, 3, none⟩ = some (.int .u64 (wdI x 3)))) := by
            refine Lib.hid fun W W' h1 h2 => ?_
            have h3 := h1.trans (h2.mono h1.size)
            have hA' := HQ5.out.below h3 HQ5.out.lt
            have hB' := HX5.out.below h3 HX5.out.lt
            exact ⟨h3, ⟨hA'.cell 0, hA'.cell 1, hA'.cell 2, hA'.cell 3⟩, hB'.cell 0, hB'.cell 1, hB'.cell 2, hB'.cell 3⟩
          obtain ⟨_, ⟨a0, a1, a2, a3⟩, b0, b1, b2, b3⟩ := HKeep.out w5 w5 (Below.refl _ _) (Below.refl _ _)
          go_cut [35, 36] (fun s35 s36 wx => s35 = .agg #[.int .u64 (wdI (q &&& x) 0), .int .u64 (wdI (q &&& x) 1), .int .u64 (wdI (q &&& x) 2), .int .u64 (wdI (q &&& x) 3), .int .u64 (wdI (q &&& ~~~x) 0), .int .u64 (wdI (q &&& ~~~x) 1), .int .u64 (wdI (q &&& ~~~x) 2), .int .u64 (wdI (q &&& ~~~x) 3)] ∧ s36 = .int .i64 0 ∧ Hid (Below w5.heap.size w5 wx))
          case first =>
            go_wp2_with fail
            go_region_held3 (fun W => (W.cell? ⟨Bq, 0, none⟩ = some (.int .u64 (wdI q 0)) ∧ W.cell? ⟨Bq, 1, none⟩ = some (.int .u64 (wdI q 1)) ∧ W.cell? ⟨Bq, 2, none⟩ = some (.int .u64 (wdI q 2)) ∧ W.cell? ⟨Bq, 3, none⟩ = some (.int .u64 (wdI q 3))) ∧ (W.cell? ⟨Bx, 0, none⟩ = some (.int .u64 (wdI x 0)) ∧ W.cell? ⟨Bx, 1, none⟩ = some (.int .u64 (wdI x 1)) ∧ W.cell? ⟨Bx, 2, none⟩ = some (.int .u64 (wdI x 2)) ∧ W.cell? ⟨Bx, 3, none⟩ = some (.int .u64 (wdI x 3)))) (go_keep)
              (first
                | (go_at_call 26; (with_reducible refine (HMt _).out.mono ?_); rintro e w' ⟨rfl, hB1⟩; obtain ⟨hBx, ⟨d0, d1, d2, d3⟩, d4, d5, d6, d7⟩ := HKeep.out _ _ (by first | assumption | exact (Below.refl _ w5).drew) hB1; clear hB1)
                | (go_at_call 28; (with_reducible refine (HWt _).out.mono ?_); rintro e w' ⟨rfl, hB1⟩; obtain ⟨hBx, ⟨d0, d1, d2, d3⟩, d4, d5, d6, d7⟩ := HKeep.out _ _ (by first | assumption | exact (Below.refl _ w5).drew) hB1; clear hB1))
            all_goals
              have HBX := Lib.hid hBx
              clear d0 d1 d2 d3 d4 d5 d6 d7 hBx
              go_wp2_with fail
              go_meet
              exact ⟨rfl, rfl, HBX⟩
          case rest =>
            obtain ⟨rfl, rfl, hBc⟩ := hcut
            have hMc := hM5.below hBc.out hbl5
            have hgc : Hid (wo.grownBy wc (some w.heap.size)) := Lib.hid (grown_more hg5.out (grown_of_below hBc.out _))
            clear hM5 hg5 HP5 HX5 HQ5 hBc HKeep a0 a1 a2 a3 b0 b1 b2 b3 HMt HWt hql5 hbl5 hbr2
            obtain ⟨Kj, hKj⟩ : ∃ Kj, Kj = cutK (Part (l.take k)) x (C.take j) := ⟨_, rfl⟩
            rw [← hKj] at hMc
            have HKJ := Lib.hid hKj
            clear hKj
            obtain ⟨wd, rfl⟩ : ∃ wd : World, wd = wc := ⟨_, rfl⟩
            go_wp2
            go_loopw [36] (fun i wr => ∃ m : Nat, i = .int .i64 m ∧ m ≤ 2 ∧ MapS wr w.heap.size (n + 2 * j + m) (k3 Kj q x m) ∧ Hid (wo.grownBy wr (some w.heap.size)))
              (fun i _ => 2 - (intOf i).toNat)
            case atStart => exact ⟨0, rfl, by omega, hMc, hgc⟩
            case round =>
              clear hMc hgc
              obtain ⟨m, rfl, hm, hM, hg⟩ := hrel
              have HP := Lib.hid (HP4.out.kept hg.out (by simp; omega))
              by_cases hmlt : m < 2
              · have hpc : ∃ pc : BS, (∀ w', (Instr.index 75 (.agg #[.int .u64 (wdI (q &&& x) 0), .int .u64 (wdI (q &&& x) 1), .int .u64 (wdI (q &&& x) 2), .int .u64 (wdI (q &&& x) 3), .int .u64 (wdI (q &&& ~~~x) 0), .int .u64 (wdI (q &&& ~~~x) 1), .int .u64 (wdI (q &&& ~~~x) 2), .int .u64 (wdI (q &&& ~~~x) 3)]) (.int .i64 m)).run Tryd.prog w' = .ok (.agg #[.int .u64 (wdI pc 0), .int .u64 (wdI pc 1), .int .u64 (wdI pc 2), .int .u64 (wdI pc 3)]) w') ∧ k3 Kj q x (m + 1) = fun t => t = pc ∨ k3 Kj q x m t := by
                  rcases (by omega : m = 0 ∨ m = 1) with rfl | rfl
                  · exact ⟨q &&& x, fun w' => ix75_0 _ _ _ _ _ _ _ _ w', rfl⟩
                  · exact ⟨q &&& ~~~x, fun w' => ix75_1 _ _ _ _ _ _ _ _ w', rfl⟩
                obtain ⟨pc, hix, hk3⟩ := hpc
                have HK3 := Lib.hid hk3
                clear hk3
                obtain ⟨ok, hok⟩ := least_lo pc
                have HL0 := least_any pc
                rw [hok] at HL0
                unfold vset at HL0
                have HL := fun w' h => Lib.hid (HL0 w' h)
                clear HL0 hok
                have m0 : wr.cell? ⟨Bm, 0, none⟩ = some (.map (some w.heap.size)) := HP.out.cell 0
                have hmlr : Bm < wr.heap.size := HP.out.lt
                have hblr : w.heap.size < wr.heap.size := hM.lt
                have hBr : Hid (Below w.heap.size w wr) := Lib.hid (hB4'.out.grown hg.out hB4'.out.size (fun i e => by cases e; exact Nat.le_refl _))
                have hGr : Hid (Glob (wr.alloc (.cells #[.int .u64 (wdI pc 0), .int .u64 (wdI pc 1), .int .u64 (wdI pc 2), .int .u64 (wdI pc 3)] 29)).drew) := Lib.hid (HG.out.below (Nat.le_refl _) ((hBr.out.alloc hBr.out.size _).drew))
                have hM7 : MapS (wr.alloc (.cells #[.int .u64 (wdI pc 0), .int .u64 (wdI pc 1), .int .u64 (wdI pc 2), .int .u64 (wdI pc 3)] 29)).drew w.heap.size (n + 2 * j + m) (k3 Kj q x m) := hM.alloc _
                have hP7 : Blk (wr.alloc (.cells #[.int .u64 (wdI pc 0), .int .u64 (wdI pc 1), .int .u64 (wdI pc 2), .int .u64 (wdI pc 3)] 29)).drew Bm 73 #[.map (some w.heap.size)] := HP.out.alloc _
                have hQ7 : Blk (wr.alloc (.cells #[.int .u64 (wdI pc 0), .int .u64 (wdI pc 1), .int .u64 (wdI pc 2), .int .u64 (wdI pc 3)] 29)).drew wr.heap.size 29 (cset pc) := Blk.new wr 29 (cset pc)
                have hnm : n + 2 * j + m < maxLen := by unfold maxLen; omega
                have hzz : (wr.alloc (.cells #[.int .u64 (wdI pc 0), .int .u64 (wdI pc 1), .int .u64 (wdI pc 2), .int .u64 (wdI pc 3)] 29)).drew.heap.size = wr.heap.size + 1 := by show (wr.alloc _).heap.size = _; simp
                have HSt : Hid (∀ w', Below (wr.alloc (.cells #[.int .u64 (wdI pc 0), .int .u64 (wdI pc 1), .int .u64 (wdI pc 2), .int .u64 (wdI pc 3)] 29)).drew.heap.size (wr.alloc (.cells #[.int .u64 (wdI pc 0), .int .u64 (wdI pc 1), .int .u64 (wdI pc 2), .int .u64 (wdI pc 3)] 29)).drew w' →
                    ∃ w9, (Instr.mapUpdate 73 (.map (some w.heap.size)) (.agg #[.int .u64 (wdI pc 0), .int .u64 (wdI pc 1), .int .u64 (wdI pc 2), .int .u64 (wdI pc 3)]) (.int .u8 (lo pc))).run Tryd.prog w' = .ok () w9 ∧ MapS w9 w.heap.size (n + 2 * j + m + 1) (k3 Kj q x (m + 1)) ∧ wo.grownBy w9 (some w.heap.size) ∧
                      (w'.cell? ⟨Bm, 0, none⟩ = some (.map (some w.heap.size)) ∧ w'.cell? ⟨wr.heap.size, 0, none⟩ = some (.int .u64 (wdI pc 0)) ∧ w'.cell? ⟨wr.heap.size, 1, none⟩ = some (.int .u64 (wdI pc 1)) ∧ w'.cell? ⟨wr.heap.size, 2, none⟩ = some (.int .u64 (wdI pc 2)) ∧ w'.cell? ⟨wr.heap.size, 3, none⟩ = some (.int .u64 (wdI pc 3))) ∧
                      (w9.cell? ⟨Bm, 0, none⟩ = some (.map (some w.heap.size)) ∧ w9.cell? ⟨wr.heap.size, 0, none⟩ = some (.int .u64 (wdI pc 0)) ∧ w9.cell? ⟨wr.heap.size, 1, none⟩ = some (.int .u64 (wdI pc 1)) ∧ w9.cell? ⟨wr.heap.size, 2, none⟩ = some (.int .u64 (wdI pc 2)) ∧ w9.cell? ⟨wr.heap.size, 3, none⟩ = some (.int .u64 (wdI pc 3)))) := by
                  refine Lib.hid fun w' hb => ?_
                  obtain ⟨w9, hrun, hM9, hg9⟩ := (hM7.below hb (by omega)).put hnm pc
                  have hP8 := hP7.below hb (by omega)
                  have hQ8 := hQ7.below hb (by omega)
                  have hP9 := hP8.kept hg9 (by simp; omega)
                  have hQ9 := hQ8.kept hg9 (by simp; omega)
                  refine ⟨w9, hrun, by rw [HK3.out]; exact hM9, ?_, ⟨hP8.cell 0, hQ8.cell 0, hQ8.cell 1, hQ8.cell 2, hQ8.cell 3⟩, ⟨hP9.cell 0, hQ9.cell 0, hQ9.cell 1, hQ9.cell 2, hQ9.cell 3⟩⟩
                  refine grown_more (grown_more (grown_more hg.out ((World.grownBy_alloc wr (.cells #[.int .u64 (wdI pc 0), .int .u64 (wdI pc 1), .int .u64 (wdI pc 2), .int .u64 (wdI pc 3)] 29) none).but _)) ?_) hg9
                  exact grown_of_below (w := (wr.alloc (.cells #[.int .u64 (wdI pc 0), .int .u64 (wdI pc 1), .int .u64 (wdI pc 2), .int .u64 (wdI pc 3)] 29))) (Below.trans ((Below.refl _ _).drew) hb) _
                clear hM7 hP7 hQ7 hzz
                go_wp2
                go_region_held3 (fun W => W.cell? ⟨Bm, 0, none⟩ = some (.map (some w.heap.size)) ∧ W.cell? ⟨wr.heap.size, 0, none⟩ = some (.int .u64 (wdI pc 0)) ∧ W.cell? ⟨wr.heap.size, 1, none⟩ = some (.int .u64 (wdI pc 1)) ∧ W.cell? ⟨wr.heap.size, 2, none⟩ = some (.int .u64 (wdI pc 2)) ∧ W.cell? ⟨wr.heap.size, 3, none⟩ = some (.int .u64 (wdI pc 3))) (go_keep)
                  (first
                    | (go_at_call 22; (with_reducible refine (HL _ hGr.out).out.mono ?_); rintro e w' ⟨rfl, hBl⟩; obtain ⟨w9, hrun, hM9, hg9, ⟨d0, d1, d2, d3, d4⟩, f0, f1, f2, f3, f4⟩ := HSt.out _ hBl; clear hBl))
                all_goals
                  clear hrun d0 d1 d2 d3 d4 f0 f1 f2 f3 f4
                  go_wp2
                  go_roundw
                  case rel => exact ⟨m + 1, by go_num, by omega, hM9, hg9⟩
                  case measure => simp [intOf]; omega
              · obtain rfl : m = 2 := by omega
                have hM9 : MapS wr w.heap.size (n + 2 * (j + 1)) (cutK (Part (l.take k)) x (C.take (j + 1))) := by
                  rw [HTC.out, cutK_snoc, ← HKJ.out]
                  exact hM
                go_wp2
                go_roundw
                case rel => exact ⟨j + 1, by go_num, by omega, hM9, hg⟩
                case measure => simp [intOf]; omega
        · obtain rfl : j = C.length := by omega
          rw [List.take_length] at hM
          have hM6 : MapS wr w.heap.size 256 (Part (l.take (k + 1))) := by
            rw [HT.out]
            exact (hM.of_iff (part_step (l.take k) x C HCn.out HCC.out)).tight (fun ss h1 h2 => part_card ss h1 h2)
          have hB6 : Hid (Below w.heap.size w wr) := Lib.hid (hB4'.out.grown hg.out hB4'.out.size (fun i e => by cases e; exact Nat.le_refl _))
          go_wp2
          go_roundw
          case rel => exact ⟨k + 1, 256, by go_num, by omega, Nat.le_refl _, hM6, HP, hB6⟩
          case measure => simp [intOf]; omega
    · obtain rfl : k = l.length := by omega
      rw [List.take_length] at hM
      have m0 : wr.cell? ⟨Bm, 0, none⟩ = some (.map (some w.heap.size)) := hP.out.cell 0
      have hbr : w.heap.size < wr.heap.size := hM.lt
      have hk8 := keys_any w.heap.size wr
      have hM8 := hM.alloc (.cells #[.map (some w.heap.size)] 73)
      have hP8 := hP.out.alloc (.cells #[.map (some w.heap.size)] 73)
      have hK8 := Blk.new wr 73 #[.map (some w.heap.size)]
      have HS8 := Lib.hid (HS wr.heap.size Bm w.heap.size n l _ (hK8.cell 0) (hP8.cell 0) hM8 hn)
      have HK8 := Lib.hid hk8
      have hB8 : Hid (Below w.heap.size w (wr.alloc (.cells #[.map (some w.heap.size)] 73))) := Lib.hid (hB.out.alloc hB.out.size _)
      clear hM8 hP8 hK8 hk8
      go_wp2_with fail
      refine HK8.out.mono ?_
      rintro e w9 ⟨rfl, rfl⟩
      go_wp2_with fail
      refine HS8.out.mono ?_
      rintro e w9 ⟨v, rfl, hv, hb9⟩
      have hv2 := Lib.hid (own_mono hv (b' := w.heap.size) (by simp; omega))
      have hb10 := Lib.hid (hB8.out.trans (hb9.mono hB8.out.size))
      clear hv hb9
      go_wp2
      go_ret
      exact ⟨v, rfl, hv2.out, hb10.out⟩
end Go.Proofs.YtegmoeeeomjkgaaDoor
end
section
namespace Go.Proofs.YtegmoeeeomjkgaaDoor
open Go Go.RowKit Go.Maps Go.Shelf

theorem atU_none {p : Nat → Bool} {F : List Nat} : ∀ {n : Nat}, atU p F n = none → ∀ i, i < n → p (F[i]?.getD 0) = false := by
  intro n
  induction n with
  | zero => intro _ i hi; omega
  | succ n ih =>
    intro h i hi
    unfold atU at h
    split at h
    · cases h
    · rename_i h2
      by_cases e : i = n
      · subst e; simpa using h2
      · exact ih h i (by omega)
theorem atU_some {p : Nat → Bool} {F : List Nat} : ∀ {n k : Nat}, atU p F n = some k → p (F[k]?.getD 0) = true := by
  intro n
  induction n with
  | zero => intro k h; cases h
  | succ n ih =>
    intro k h
    unfold atU at h
    split at h
    · rename_i h2; cases h; exact h2
    · exact ih h

structure Inv (l : List BS) (b : Nat) (Q : List BS) (F : List Nat) : Prop where
  len : Q.length = F.length
  bits : ∀ (i : Nat) (x : BS) (f : Nat), Q[i]? = some x → F[i]? = some f → f < b ∧ ∀ c, c < 256 → x.getLsbD c = (decide (c < b) && sameB l c f)
  all : ∀ y : Nat, y < b → ∃ i f : Nat, F[i]? = some f ∧ sameB l y f = true ∧ f ≤ y
  up : F.Pairwise (· < ·)
  one : ∀ i j f g : Nat, F[i]? = some f → F[j]? = some g → sameB l f g = true → i = j

theorem sameB_tr {l : List BS} {x y z : Nat} (h : sameB l x y = true) (k : sameB l y z = true) : sameB l x z = true := by
  rw [sameB_true] at *
  exact fun s hs => (h s hs).trans (k s hs)

theorem inv_to (l : List BS) : ∀ b, b ≤ 256 → Inv l b (splitTo l b).1 (splitTo l b).2 := by
  intro b
  induction b with
  | zero => intro _; exact ⟨rfl, fun i x f h => by simp [splitTo] at h, fun y h => by omega, List.Pairwise.nil, fun i j f g h => by simp [splitTo] at h⟩
  | succ b ih =>
    intro hb
    have I := ih (by omega)
    have hs : splitTo l (b + 1) = match atU (sameB l b) (splitTo l b).2 (splitTo l b).2.length with
      | none => ((splitTo l b).1 ++ [withB 0#256 b], (splitTo l b).2 ++ [b])
      | some i => ((splitTo l b).1.set i (withB ((splitTo l b).1[i]?.getD 0#256) b), (splitTo l b).2) := by rw [splitTo]; rfl
    rw [hs]
    generalize (splitTo l b).1 = Q at I ⊢
    generalize (splitTo l b).2 = F at I ⊢
    cases hat : atU (sameB l b) F F.length with
    | none =>
      have hno : ∀ i f, F[i]? = some f → sameB l b f = false := fun i f h => by
        have := atU_none hat i (List.getElem?_eq_some_iff.1 h).1
        rw [h] at this; exact this
      have hlt : ∀ i f, F[i]? = some f → f < b := fun i f h => by
        have hi := (List.getElem?_eq_some_iff.1 h).1
        exact (I.bits i _ f (List.getElem?_eq_getElem (by rw [I.len]; exact hi)) h).1
      have hF : ∀ i f, (F ++ [b])[i]? = some f → (F[i]? = some f) ∨ (i = F.length ∧ f = b) := fun i f h => by
        rw [List.getElem?_append] at h
        split at h
        · exact .inl h
        · rename_i hi
          have hi2 := (List.getElem?_eq_some_iff.1 h).1
          simp at hi2
          obtain rfl : i = F.length := by omega
          simp at h
          exact .inr ⟨rfl, h.symm⟩
      refine ⟨by simp [I.len], fun i x f hx hf => ?_, fun y hy => ?_, ?_, fun i j f g hf hg h => ?_⟩
      · rcases hF i f hf with hf' | ⟨rfl, rfl⟩
        · clear hf
          have hf := hf'
          have hi := (List.getElem?_eq_some_iff.1 hf).1
          have hx' : Q[i]? = some x := by
            have hx2 : (Q ++ [withB 0#256 b])[i]? = some x := hx
            rw [List.getElem?_append_left (by rw [I.len]; exact hi)] at hx2; exact hx2
          obtain ⟨h1, h2⟩ := I.bits i x f hx' hf
          refine ⟨by omega, fun c hc => ?_⟩
          rw [h2 c hc]
          by_cases e : c = b
          · subst e; simp [hno i f hf]
          · have : decide (c < b + 1) = decide (c < b) := decide_eq_decide.2 (by omega)
            rw [this]
        · have hx2 : (Q ++ [withB 0#256 f])[F.length]? = some x := hx
          rw [← I.len, List.getElem?_append_right (Nat.le_refl _)] at hx2
          simp at hx2
          subst hx2
          refine ⟨by omega, fun c hc => ?_⟩
          rw [withB_bit _ _ _ (by omega)]
          by_cases e : f = c
          · subst e; simp [sameB_refl]
          · by_cases h2 : c < f
            · obtain ⟨i, g, hg, h3, _⟩ := I.all c h2
              have h4 : sameB l c f = false := by
                cases h5 : sameB l c f with
                | false => rfl
                | true =>
                  have := sameB_tr (by rw [sameB_symm]; exact h5) h3
                  rw [hno i g hg] at this; cases this
              simp [e, h4]
            · have : ¬ c < f + 1 := by omega
              simp [e, this]
      · by_cases e : y = b
        · subst e; exact ⟨F.length, y, by simp, sameB_refl l y, Nat.le_refl _⟩
        · obtain ⟨i, f, h1, h2, h3⟩ := I.all y (by omega)
          exact ⟨i, f, by show (F ++ [b])[i]? = _; rw [List.getElem?_append_left (List.getElem?_eq_some_iff.1 h1).1]; exact h1, h2, h3⟩
      · show (F ++ [b]).Pairwise _
        rw [List.pairwise_append]
        refine ⟨I.up, by simp, fun x hx y hy => ?_⟩
        simp at hy; subst hy
        obtain ⟨i, hi⟩ := List.mem_iff_getElem?.1 hx
        exact hlt i x hi
      · rcases hF i f hf with hf' | ⟨e1, e2⟩ <;> rcases hF j g hg with hg' | ⟨e3, e4⟩
        · exact I.one i j f g hf' hg' h
        · rw [e4, sameB_symm, hno i f hf'] at h; cases h
        · rw [e2, hno j g hg'] at h; cases h
        · rw [e1, e3]
    | some i0 =>
      have hi0 := atU_lt _ _ _ _ hat
      obtain ⟨f0, hf0⟩ : ∃ f, F[i0]? = some f := ⟨_, List.getElem?_eq_getElem hi0⟩
      obtain ⟨x0, hx0⟩ : ∃ x, Q[i0]? = some x := ⟨_, List.getElem?_eq_getElem (by rw [I.len]; exact hi0)⟩
      have hb0 : sameB l b f0 = true := by
        have := atU_some hat
        rw [hf0] at this; exact this
      obtain ⟨hlt0, hbit0⟩ := I.bits i0 x0 f0 hx0 hf0
      refine ⟨by simp [I.len], fun i x f hx hf => ?_, fun y hy => ?_, I.up, I.one⟩
      · have hx2 : (Q.set i0 (withB (Q[i0]?.getD 0#256) b))[i]? = some x := hx
        have hf' : F[i]? = some f := hf
        rw [hx0] at hx2
        by_cases e : i0 = i
        · subst e
          rw [List.getElem?_set_self (by rw [I.len]; exact hi0)] at hx2
          simp at hx2
          subst hx2
          rw [hf0] at hf'
          cases hf'
          refine ⟨by omega, fun c hc => ?_⟩
          rw [withB_bit _ _ _ (by omega), hbit0 c hc]
          by_cases e : b = c
          · subst e; simp [hb0]
          · have : decide (c < b + 1) = decide (c < b) := decide_eq_decide.2 (by omega)
            simp [e, this]
        · rw [List.getElem?_set_ne e] at hx2
          obtain ⟨h1, h2⟩ := I.bits i x f hx2 hf'
          refine ⟨by omega, fun c hc => ?_⟩
          rw [h2 c hc]
          by_cases e2 : c = b
          · subst e2
            have h4 : sameB l c f = false := by
              cases h5 : sameB l c f with
              | false => rfl
              | true => exact absurd (I.one i0 i f0 f hf0 hf' (sameB_tr (by rw [sameB_symm]; exact hb0) h5)) e
            simp [h4]
          · have : decide (c < b + 1) = decide (c < b) := decide_eq_decide.2 (by omega)
            rw [this]
      · by_cases e : y = b
        · subst e; exact ⟨i0, f0, hf0, hb0, by omega⟩
        · exact I.all y (by omega)

theorem lo_le {p : BS} {y : Nat} (hy : y < 256) (h : p.getLsbD y = true) : lo p ≤ y := by
  have hm : y ∈ bytesL p := (mem_bytesL p y).2 ⟨hy, h⟩
  have hr := bytesL_rising p
  unfold lo
  cases hb : bytesL p with
  | nil => rw [hb] at hm; cases hm
  | cons z t =>
    rw [hb] at hm hr
    rcases List.mem_cons.1 hm with rfl | h2
    · exact Nat.le_refl _
    · exact Nat.le_of_lt ((List.pairwise_cons.1 hr).1 y h2)

/-- The document's parts: all of them, by rising least bytes. -/
theorem splitL_parts (l : List BS) : (∀ p, p ∈ splitL l ↔ Part l p) ∧ (splitL l).Pairwise (fun p q => lo p < lo q) := by
  have I := inv_to l 256 (Nat.le_refl _)
  have hQ : splitL l = (splitTo l 256).1 := rfl
  rw [hQ]
  generalize (splitTo l 256).1 = Q at I ⊢
  generalize (splitTo l 256).2 = F at I
  have hb : ∀ (i : Nat) (x : BS) (f : Nat), Q[i]? = some x → F[i]? = some f → f < 256 ∧ ∀ c, c < 256 → x.getLsbD c = sameB l c f := fun i x f h1 h2 => by
    obtain ⟨h3, h4⟩ := I.bits i x f h1 h2
    exact ⟨h3, fun c hc => by rw [h4 c hc]; simp [hc]⟩
  have hF : ∀ (i : Nat) (x : BS), Q[i]? = some x → ∃ f, F[i]? = some f := fun i x h => ⟨_, List.getElem?_eq_getElem (by rw [← I.len]; exact (List.getElem?_eq_some_iff.1 h).1)⟩
  have hlo : ∀ (i : Nat) (x : BS) (f : Nat), Q[i]? = some x → F[i]? = some f → lo x = f := fun i x f h1 h2 => by
    obtain ⟨h3, h4⟩ := hb i x f h1 h2
    have h5 : x.getLsbD f = true := by rw [h4 f h3, sameB_refl]
    have h6 := lo_le h3 h5
    have h7 : sameB l (lo x) f = true := by rw [← h4 (lo x) (lo_lt x)]; exact lo_mem h3 h5
    obtain ⟨j, g, hg, h8, h9⟩ := I.all (lo x) (lo_lt x)
    have h10 : sameB l f g = true := sameB_tr (by rw [sameB_symm]; exact h7) h8
    have h11 := I.one i j f g h2 hg h10
    subst h11
    rw [h2] at hg
    cases hg
    omega
  refine ⟨fun p => ⟨fun h => ?_, fun h => ?_⟩, ?_⟩
  · obtain ⟨i, hi⟩ := List.mem_iff_getElem?.1 h
    obtain ⟨f, hf⟩ := hF i p hi
    obtain ⟨h3, h4⟩ := hb i p f hi hf
    exact ⟨f, h3, h4⟩
  · obtain ⟨x, hx, hp⟩ := h
    obtain ⟨i, f, hf, h1, _⟩ := I.all x hx
    obtain ⟨q, hq⟩ : ∃ q, Q[i]? = some q := ⟨_, List.getElem?_eq_getElem (by rw [I.len]; exact (List.getElem?_eq_some_iff.1 hf).1)⟩
    obtain ⟨h3, h4⟩ := hb i q f hq hf
    have : p = q := part_ext fun c hc => by rw [hp c hc, h4 c hc]; exact sameB_cong h1 c
    rw [this]
    exact List.mem_iff_getElem?.2 ⟨i, hq⟩
  · rw [List.pairwise_iff_getElem]
    intro i j hi hj hij
    have hiF : i < F.length := by rw [← I.len]; exact hi
    have hjF : j < F.length := by rw [← I.len]; exact hj
    rw [hlo i _ _ (List.getElem?_eq_getElem hi) (List.getElem?_eq_getElem hiF), hlo j _ _ (List.getElem?_eq_getElem hj) (List.getElem?_eq_getElem hjF)]
    exact (List.pairwise_iff_getElem.1 I.up) i j hiF hjF hij

/-- Whoever lists all the parts, each once, by least bytes that do not fall, has the document's list. -/
theorem splitL_sorted (l ss : List BS) (hn : ss.Nodup) (hm : ∀ p, p ∈ ss ↔ Part l p) (hs : ss.Pairwise (fun p q => lo p ≤ lo q)) : ss = splitL l := by
  obtain ⟨h1, h2⟩ := splitL_parts l
  have hnd : (splitL l).Nodup := h2.imp (fun {a b} h e => by rw [e] at h; exact absurd h (Nat.lt_irrefl _))
  have hp : ss.Perm (splitL l) := (List.perm_ext_iff_of_nodup hn hnd).2 fun p => (hm p).trans (h1 p).symm
  refine List.Perm.eq_of_pairwise (le := fun p q => lo p ≤ lo q) (fun a b ha hb h3 h4 => ?_) hs (h2.imp fun {a b} h => Nat.le_of_lt h) hp
  have hpa := (hm a).1 ha
  have hpb : Part l b := by first | exact (h1 b).1 hb | exact (hm b).1 hb
  have e : lo a = lo b := Nat.le_antisymm h3 h4
  have h5 := hpb.lo
  rw [← e] at h5
  exact Part.eq hpa hpb (lo_lt a) hpa.lo h5
end Go.Proofs.YtegmoeeeomjkgaaDoor
end
section
namespace Go.Proofs.YtegmoeeeomjkgaaDoor
open Go Go.RowKit Go.Maps Go.Shelf

/-- What SortFunc must do to a row of parts. -/
def SortF : Prop := ∀ (base g cap Bm b n : Nat) (l ss : List BS) (w : World), (∀ p ∈ ss, Part l p) → w.cell? ⟨Bm, 0, none⟩ = some (.map (some b)) → MapS w b n (Part l) → Bm < base → b < base → base ≤ w.heap.size → ss.length ≤ 256 →
  w.ownsRow base 29 4 (.slice (some ⟨g, 0, none⟩) ss.length cap) ss.length (cellsB ss) →
  Calls Tryd.prog 58 #[.slice (some ⟨g, 0, none⟩) ss.length cap, .func (.func 50) #[] #[.pointer (some ⟨Bm, 0, none⟩)]] w fun e W' => (∃ v, e = .returned v) ∧ ∃ ts : List BS, ts.Perm ss ∧ ts.Pairwise (fun p q => lo p ≤ lo q) ∧
    W'.ownsRow base 29 4 (.slice (some ⟨g, 0, none⟩) ss.length cap) ss.length (cellsB ts) ∧ Below base w W'

theorem part_some (l : List BS) : ∃ p, Part l p := by
  obtain ⟨q, hq⟩ := exists_bs (fun c => sameB l c 0)
  exact ⟨q, 0, by omega, hq⟩

set_option maxRecDepth 100000 in
set_option maxHeartbeats 1000000 in
theorem sorts_of (HF : SortF) : SortsS := by
  intro Bk Bm b n l w hk hm hM hn
  have hbl := hM.lt
  have hml : Bm < w.heap.size := lt_of_cell hm
  have HC := Lib.hid (collect_any Bk b n (Part l) w hk hM (by omega))
  go_enter Tryd.func48, Tryd.ntmps48
  go_wp2_with fail
  refine HC.out.mono ?_
  rintro e w1 ⟨v, ss, rfl, hS, hO, hB⟩
  obtain ⟨p0, hp0⟩ := part_some l
  have hpos : 0 < ss.length := List.length_pos_of_mem ((hS.2 p0).2 hp0)
  obtain ⟨a, cap, rfl, _⟩ := owned_rowB hO
  obtain ⟨g, rfl⟩ := ownsRow_pos hO hpos
  have hM1 := hM.below hB hbl
  have hm1 : w1.cell? ⟨Bm, 0, none⟩ = some (.map (some b)) := (hB.cell (p := ⟨Bm, 0, none⟩) hml).trans hm
  have hc := part_card ss hS.1 (fun s hs => (hS.2 s).1 hs)
  have HF1 := Lib.hid (HF w.heap.size g cap Bm b n l ss w1 (fun s hs => (hS.2 s).1 hs) hm1 hM1 hml hbl hB.size hc hO)
  have HSS := Lib.hid hS
  have HB := Lib.hid hB
  clear hO hM1 hm1 hS hB hM HC
  go_wp2_with fail
  refine HF1.out.mono ?_
  rintro e w2 ⟨⟨v, rfl⟩, ts, hp, hsrt, hO2, hB2⟩
  have hts : ts = splitL l := splitL_sorted l ts (hp.symm.nodup HSS.out.1) (fun p => (hp.mem_iff).trans (HSS.out.2 p)) hsrt
  have hlen := hp.length_eq
  have HO2 : Hid (w2.ownsRow w.heap.size 29 4 (.slice (some ⟨g, 0, none⟩) ss.length cap) (splitL l).length (cellsB (splitL l))) := by
    refine Lib.hid ?_
    rw [← hts, hlen]; exact hO2
  have HB2 := Lib.hid (HB.out.trans hB2)
  clear hO2 hB2 hts hp hsrt hlen
  go_wp2
  go_ret
  exact ⟨_, rfl, HO2.out, HB2.out⟩
end Go.Proofs.YtegmoeeeomjkgaaDoor
end
