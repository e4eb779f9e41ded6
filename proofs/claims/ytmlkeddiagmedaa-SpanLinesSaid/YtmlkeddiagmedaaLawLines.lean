import Derived.Test.YtmlkeddiagmedaaLinesLow
import Derived.Test.YtmlkeddiagmedaaKnown
import Derived.Lib.IndexLaws
namespace Go.Proofs.Ytmlkeddiagmedaa
open Go Go.RowKit Go.Shelf

attribute [local go_sem] Oper.semAt_some

/-- What the law's blocks hold at its first loop. -/
structure L1 (W w : World) (leave : Int) (s : ByteArray) (m : Nat) : Prop where
  b0 : Blk W w.heap.size 3 #[.int .i64 leave]
  b1 : Blk W (w.heap.size + 1) 4 #[.bool false]
  b2 : Blk W (w.heap.size + 1 + 1) 9 #[.string s]
  b3 : Blk W (w.heap.size + 1 + 1 + 1) 3 #[.int .i64 (m : Int)]
  b : Below w.heap.size w W
theorem L1.low {W W' w : World} {leave : Int} {s : ByteArray} {m : Nat} (h : L1 W w leave s m) (hB : Below (w.heap.size + 4) W W') : L1 W' w leave s m :=
  ⟨h.b0.below hB (by omega), h.b1.below hB (by omega), h.b2.below hB (by omega), h.b3.below hB (by omega), h.b.trans (hB.mono (by omega))⟩
theorem L1.setN {W w : World} {leave : Int} {s : ByteArray} {m : Nat} (h : L1 W w leave s m) : L1 (W.setCell ⟨w.heap.size + 1 + 1 + 1, 0, none⟩ (.int .i64 ((m : Int) + 1))) w leave s (m + 1) :=
  ⟨h.b0.other (by show w.heap.size ≠ w.heap.size + 1 + 1 + 1; omega) _, h.b1.other (by show w.heap.size + 1 ≠ w.heap.size + 1 + 1 + 1; omega) _, h.b2.other (by show w.heap.size + 1 + 1 ≠ w.heap.size + 1 + 1 + 1; omega) _, h.b3.set 0 _,
    h.b.setCell (p := ⟨w.heap.size + 1 + 1 + 1, 0, none⟩) (by show w.heap.size ≤ w.heap.size + 1 + 1 + 1; omega) _⟩

/-- The text up to behind the lines so far. -/
def outOf (s : ByteArray) (pre : List (Nat × Nat)) : ByteArray := s.extract 0 (nextAt 0 pre - 1)

/-- What the law's blocks hold at its second loop. -/
structure L2 (W w : World) (s : ByteArray) (D o t : Nat) (out : ByteArray) (m : Nat) : Prop where
  b1 : Blk W (w.heap.size + 1) 4 #[.bool false]
  b2 : Blk W t 9 #[.string s]
  b3 : Blk W o 9 #[.string out]
  b4 : Blk W (o + 1) 3 #[.int .i64 (m : Int)]
  d : W.heap[D]? = some (.deferred (some []))
  b : Below w.heap.size w W

theorem L2.low {W W' w : World} {s : ByteArray} {D o t : Nat} {out : ByteArray} {m : Nat} (h : L2 W w s D o t out m) (hD : D < o) (ht : t < o) (hw : w.heap.size + 1 < o) (hB : Below (o + 2) W W') : L2 W' w s D o t out m :=
  ⟨h.b1.below hB (by omega), h.b2.below hB (by omega), h.b3.below hB (by omega), h.b4.below hB (by omega), (hB.block D (by omega)).trans h.d, h.b.trans (hB.mono (by omega))⟩
theorem L2.setOut {W w : World} {s : ByteArray} {D o t : Nat} {out : ByteArray} {m : Nat} (out' : ByteArray) (h : L2 W w s D o t out m) (hD : D < o) (ht : t < o) (hw : w.heap.size + 1 < o) :
    L2 (W.setCell ⟨o, 0, none⟩ (.string out')) w s D o t out' m :=
  ⟨h.b1.other (by show w.heap.size + 1 ≠ o; omega) _, h.b2.other (by show t ≠ o; omega) _, h.b3.set 0 _, h.b4.other (by show o + 1 ≠ o; omega) _,
    (Below.heap_setCell W ⟨o, 0, none⟩ _ D (by show D ≠ o; omega)).trans h.d, h.b.setCell (p := ⟨o, 0, none⟩) (by show w.heap.size ≤ o; omega) _⟩
theorem L2.setN {W w : World} {s : ByteArray} {D o t : Nat} {out : ByteArray} {m : Nat} (h : L2 W w s D o t out m) (hD : D < o) (ht : t < o) (hw : w.heap.size + 1 < o) :
    L2 (W.setCell ⟨o + 1, 0, none⟩ (.int .i64 ((m : Int) + 1))) w s D o t out (m + 1) :=
  ⟨h.b1.other (by show w.heap.size + 1 ≠ o + 1; omega) _, h.b2.other (by show t ≠ o + 1; omega) _, h.b3.other (by show o ≠ o + 1; omega) _, h.b4.set 0 _,
    (Below.heap_setCell W ⟨o + 1, 0, none⟩ _ D (by show D ≠ o + 1; omega)).trans h.d, h.b.setCell (p := ⟨o + 1, 0, none⟩) (by show w.heap.size ≤ o + 1; omega) _⟩
theorem extract_join (s : ByteArray) (i j : Nat) (h : i ≤ j) : s.extract 0 i ++ s.extract i j = s.extract 0 j := by
  rw [ByteArray.extract_append_extract, Nat.min_eq_left (Nat.zero_le _), Nat.max_eq_right h]
theorem extract_nl (s : ByteArray) (i : Nat) (h1 : 1 ≤ i) (h2 : s.data.toList[i - 1]? = some 10) : s.extract 0 (i - 1) ++ ⟨#[10]⟩ = s.extract 0 i := by
  have hlt : i - 1 < s.data.toList.length := (List.getElem?_eq_some_iff.1 h2).1
  have e : s.extract (i - 1) i = ⟨#[10]⟩ := by
    apply ByteArray.ext
    apply Array.ext'
    rw [ByteArray.data_extract, Array.toList_extract, List.extract_eq_take_drop, show i - (i - 1) = 1 by omega, List.take_one, List.head?_drop, h2]
    rfl
  rw [← e, extract_join s (i - 1) i (by omega)]
theorem index_none (s : ByteArray) (i j : Nat) (hij : i ≤ j) (hj : j ≤ s.size) (h : ∀ k, i ≤ k → k < j → s.data.toList[k]? ≠ some 10) : Lib.indexByte (s.extract i j).data.toList 10 < 0 := by
  refine Int.lt_of_not_ge fun hge => ?_
  obtain ⟨k, hk⟩ := Int.eq_ofNat_of_zero_le hge
  have hat := (Lib.indexByte_some hk).1
  have hlt := (List.getElem?_eq_some_iff.1 hat).1
  rw [ByteArray.data_extract, Array.toList_extract, List.extract_eq_take_drop] at hat hlt
  rw [List.length_take] at hlt
  rw [List.getElem?_take_of_lt (by omega), List.getElem?_drop] at hat
  exact h (i + k) (by omega) (by omega) hat

theorem lines_any (s : ByteArray) (w : World) : Calls Try.prog 12 #[.string s] w fun e w' => e = .returned (.func (.func 25) #[] #[.pointer (some ⟨w.heap.size, 0, none⟩)]) ∧ w' = w.alloc (.cells #[.string s] 9) := by
  go_enter Try.func12, Try.ntmps12
  go_wp2
  go_ret
  exact ⟨rfl, rfl⟩
theorem count_one (s : ByteArray) (w : World) : Calls Try.prog 14 #[.string s, .string ⟨#[10]⟩] w fun e w' => e = .returned (.int .i64 ((s.data.toList.count 10 : Nat) : Int)) ∧ w' = w :=
  Try.strings_Count_one s 10 w

set_option maxRecDepth 100000 in
set_option maxHeartbeats 4000000 in
theorem lawLines_in
    (n : Nat) (hn : 8 ≤ n) (s : ByteArray) (hs : s.size ≤ 5000) (leave : Int) (w : World) :
    CallsIn Fence.wide n Try.prog 4 #[.string s, .int .i64 leave] w fun e w' => e = .returned (.bool true) ∧ Below w.heap.size w w' := by
  have h1 : 1 ≤ n := by omega
  have d1 : ¬ (5000 : Int) < s.size := by omega
  have hE : ∀ (a : Value) (w : World), (binOp .eql 32 (.func (.func 25) #[] #[a]) .nilFunc).run Try.prog w = .ok (.bool false) w := fun a w => by kernel_rfl
  refine callsIn_of_wp_marks Try.func4 rfl trivial ?_ rfl
  simp only [Try.ntmps4, List.size_toArray, List.length_cons, List.length_nil, Nat.reduceAdd, Nat.reduceSub, Array.replicate_succ, Array.replicate_zero, List.push_toArray, List.append_toArray, List.nil_append, List.cons_append]
  gi_wp2_with (refine ⟨trivial, ?_⟩; gi_at_call 12; refine (callsIn_wide.2 (lines_any s _)).mono ?_; rintro e w' ⟨rfl, rfl⟩)
  obtain ⟨W0, hW0⟩ : ∃ W0, W0 = (((w.alloc (.cells #[.int .i64 leave] 3)).alloc (.cells #[.bool false] 4)).alloc (.cells #[.string s] 9)).alloc (.cells #[.int .i64 0] 3) := ⟨_, rfl⟩
  have hs0 : W0.heap.size = w.heap.size + 4 := by rw [hW0]; simp
  have hI0 : L1 W0 w leave s 0 := by
    have k1 := Blk.new (w.alloc (.cells #[.int .i64 leave] 3)) 4 #[.bool false]
    have k2 := Blk.new ((w.alloc (.cells #[.int .i64 leave] 3)).alloc (.cells #[.bool false] 4)) 9 #[.string s]
    have k3 := Blk.new (((w.alloc (.cells #[.int .i64 leave] 3)).alloc (.cells #[.bool false] 4)).alloc (.cells #[.string s] 9)) 3 #[.int .i64 0]
    simp only [World.size_alloc] at k1 k2 k3
    rw [hW0]
    exact ⟨(((Blk.new w 3 _).alloc _).alloc _).alloc _, (k1.alloc _).alloc _, k2.alloc _, k3, ((((Below.refl _ w).alloc (Nat.le_refl _) _).alloc (by simp) _).alloc (by simp; omega) _).alloc (by simp; omega) _⟩
  rw [← hW0]
  clear hW0
  have hlen := spansAt_length s
  refine rangeFunc_low h1 (gf := 25) (lb := #[.pointer (some ⟨w.heap.size + 1 + 1, 0, none⟩)]) rfl (enters_of Try.func25 (by kernel_rfl) rfl)
    (lines_low (n - 1) (by omega) (w.heap.size + 1 + 1) s hs W0) (fun _ => rfl)
    (fun pre W => L1 W w leave s pre.length) (fun c _ W => c = .exit 0 ∧ ∃ m, L1 W w leave s m)
    (fun t A B h hB => h.low (by rw [← hs0]; exact hB)) (fun c t A B h hB => ⟨h.1, h.2.imp fun m hm => hm.low (by rw [← hs0]; exact hB)⟩)
    (fun t A h => h.b2.cell 0) hI0 ?round ?done ?stop
  case round =>
    intro l pre x W hpre hI hsz
    have hpl := hpre.length_le
    rw [List.length_append, List.length_singleton] at hpl
    simp only [encL, spanV]
    gi_wp2
    refine ⟨KeepUp.refl _ _, ?_⟩
    rintro W2 ⟨o, rfl⟩ -
    obtain ⟨W2, hW2⟩ : ∃ W2, W2 = W.putObj (W0.heap.size + 1) o := ⟨_, rfl⟩
    have hI2 : L1 W2 w leave s pre.length := hI.low (by rw [hW2]; exact putB (Below.refl _ W) (by omega))
    rw [← hW2]
    have c0 := hI2.b0.cell 0
    have c3 := hI2.b3.cell 0
    have f3 := hI2.b3.frozen 0
    have l3 := hI2.b3.lt
    simp only [List.getElem?_toArray, List.getElem?_cons_zero] at c0 c3
    have HI2 := Lib.hid hI2
    obtain ⟨q, hq⟩ : ∃ q, q = pre.length := ⟨_, rfl⟩
    have hql : (pre ++ [x]).length = q + 1 := by rw [hq]; simp
    rw [← hq] at HI2 c3 hpl
    clear hI2 hI hI0 hW2 hq
    gi_wp2
    · exact ⟨KeepUp.refl _ _, rfl, q, HI2.out⟩
    · refine ⟨KeepUp.set (by omega) _, ?_⟩
      show L1 _ _ _ _ (pre ++ [x]).length
      rw [hql]
      exact HI2.out.setN
  case' done =>
    intro D W1 hD hI1 hK1
    obtain ⟨m1, hL⟩ : ∃ m, L1 W1 w leave s m := ⟨_, hI1⟩
    clear hI1
  case' stop =>
    rintro D c pre W1 hD hpre ⟨rfl, m1, hL⟩ hK1
    clear hpre pre
  all_goals
    have HL := Lib.hid hL
    have hbig : w.heap.size + 4 ≤ W1.heap.size := hL.b3.lt
    have hD1 : D < W1.heap.size := (Array.getElem?_eq_some_iff.1 hK1).1
    have hDb : w.heap.size + 4 ≤ D := by omega
    clear hL hI0
    gi_wp2
    obtain ⟨W2, hW2⟩ : ∃ W2, W2 = (W1.alloc (.cells #[.string ⟨#[]⟩] 9)).alloc (.cells #[.int .i64 0] 3) := ⟨_, rfl⟩
    have hs2 : W2.heap.size = W1.heap.size + 2 := by rw [hW2]; simp
    have hB2 : Below W1.heap.size W1 W2 := by rw [hW2]; exact ((Below.refl _ W1).alloc (Nat.le_refl _) _).alloc (by simp) _
    have hI2 : L2 W2 w s D W1.heap.size (w.heap.size + 1 + 1) (outOf s []) 0 := by
      have k1 := Blk.new W1 9 #[.string ⟨#[]⟩]
      have k2 := Blk.new (W1.alloc (.cells #[.string ⟨#[]⟩] 9)) 3 #[.int .i64 0]
      rw [World.size_alloc] at k2
      have e0 : outOf s [] = ⟨#[]⟩ := by
        show s.extract 0 0 = _
        apply ByteArray.ext
        simp [ByteArray.data_extract]
      rw [e0]
      exact ⟨HL.out.b1.below hB2 (by omega), HL.out.b2.below hB2 (by omega), by rw [hW2]; exact k1.alloc _, by rw [hW2]; exact k2, (hB2.block D hD1).trans hK1, HL.out.b.trans (hB2.mono (by omega))⟩
    rw [← hW2]
    clear hW2 HL hK1
    refine rangeFunc_low h1 (gf := 25) (lb := #[.pointer (some ⟨w.heap.size + 1 + 1, 0, none⟩)]) rfl (enters_of Try.func25 (by kernel_rfl) rfl)
      (lines_low (n - 1) (by omega) (w.heap.size + 1 + 1) s hs W2) (fun _ => rfl)
      (fun pre W => L2 W w s D W1.heap.size (w.heap.size + 1 + 1) (outOf s pre) pre.length) (fun _ _ _ => False)
      (fun t A B h hB => h.low (by omega) (by omega) (by omega) (hB.mono (by omega))) (fun c t A B h hB => h)
      (fun t A h => h.b2.cell 0) hI2 ?_ ?_ ?_
    rotate_right
    · rintro _ _ _ _ _ _ h
      exact h.elim
    · intro l pre x W hpre hI hsz
      have hx : pre ++ [x] <+: spansL 0 0 s.data.toList := by simpa [spansAt] using hpre
      obtain ⟨hx1, hx2, hx3, hx4, hx5⟩ := spans_chain s.data.toList s.data.toList 0 0 (by simp) (Nat.zero_le _) (Nat.le_refl _) (fun i h1 h2 => absurd h2 (by omega)) pre x hx
      have hpl := hpre.length_le
      rw [List.length_append, List.length_singleton] at hpl
      rw [← Lib.size_eq] at hx3
      obtain ⟨O, hO⟩ : ∃ O, O = s.extract 0 x.1 := ⟨_, rfl⟩
      obtain ⟨L, hL⟩ : ∃ L, L = s.extract x.1 x.2 := ⟨_, rfl⟩
      obtain ⟨O2, hO2⟩ : ∃ O2, O2 = outOf s (pre ++ [x]) := ⟨_, rfl⟩
      obtain ⟨Oa, hOa⟩ : ∃ Oa, Oa = outOf s pre := ⟨_, rfl⟩
      have hOab : Oa.size ≤ 5000 := by rw [hOa]; unfold outOf; simp; omega
      have hOs : (O.size : Int) = x.1 := by rw [hO]; simp; omega
      have hLs : (x.1 : Int) + L.size = x.2 := by rw [hL]; simp; omega
      have hcat : O ++ L = O2 := by
        rw [hO, hL, hO2]
        unfold outOf
        rw [nextAt_snoc, Nat.add_sub_cancel]
        exact extract_join s x.1 x.2 hx2
      have hno : Lib.indexByte L.data.toList 10 < 0 := by
        rw [hL]
        exact index_none s x.1 x.2 hx2 hx3 hx4
      have hco : decide (0 ≤ Lib.indexByte L.data.toList 10) = false := decide_eq_false (by omega)
      have hfirst : pre ≠ [] → Oa ++ ⟨#[10]⟩ = O := fun hne => by
        rw [hOa, hO]
        obtain ⟨h1, h2⟩ := hx5 hne
        unfold outOf
        rw [← hx1]
        exact extract_nl s x.1 h1 h2
      have hfirst0 : pre = [] → Oa = O := fun he => by
        rw [hOa, hO]
        unfold outOf
        rw [hx1, he, nextAt_nil]
      simp only [encL, spanV]
      rw [← hL]
      rw [← hOa] at hI
      have hql : (pre ++ [x]).length = pre.length + 1 := by simp
      have hq0 : pre = [] → pre.length = 0 := fun h => by rw [h]; rfl
      have hq1 : pre ≠ [] → 0 < pre.length := fun h => List.length_pos_iff.2 h
      obtain ⟨q, hq⟩ : ∃ q, q = pre.length := ⟨_, rfl⟩
      rw [← hq] at hI hql hpl hq0 hq1
      have HI := Lib.hid hI
      have HO2 := Lib.hid hO2
      have HQL := Lib.hid hql
      have HC := Lib.hid (Try.strings_Contains_one L 10)
      clear hI hO hL hO2 hOa hx hpre hx1 hx4 hx5 hno hI2 hq hql
      gi_wp2
      refine ⟨KeepUp.of_below ((Below.refl _ W).alloc (Nat.le_refl _) _) (Nat.le_refl _), ?_⟩
      rintro W3 ⟨o, rfl⟩ -
      obtain ⟨W3, hW3⟩ : ∃ W3, W3 = (W.alloc (.cells #[.int .i64 x.1, .int .i64 x.2] 35)).putObj (W2.heap.size + 1) o := ⟨_, rfl⟩
      have hT : Blk W3 W.heap.size 35 #[.int .i64 x.1, .int .i64 x.2] := by
        rw [hW3]; exact (World.putObj_heap_other (by omega)).trans (Blk.new W 35 _)
      have hI3 : L2 W3 w s D W1.heap.size (w.heap.size + 1 + 1) Oa q := HI.out.low (by omega) (by omega) (by omega) (by
        rw [hW3]; exact putB ((Below.refl _ W).alloc (by omega) _) (by omega))
      rw [← hW3]
      clear hW3 HI
      have t0 := hT.cell 0
      have t1 := hT.cell 1
      have c3 := hI3.b3.cell 0
      have f3 := hI3.b3.frozen 0
      have l3 := hI3.b3.lt
      have c4 := hI3.b4.cell 0
      have f4 := hI3.b4.frozen 0
      have l4 := hI3.b4.lt
      simp only [List.getElem?_toArray, List.getElem?_cons_zero, List.getElem?_cons_succ] at t0 t1 c3 c4
      have HI3 := Lib.hid hI3
      have hTb := hT.lt
      have hne : W.heap.size ≠ W1.heap.size := by omega
      have hne2 : W.heap.size ≠ W1.heap.size + 1 := by omega
      clear hI3 hT
      by_cases hp : pre = []
      · have hq := hq0 hp
        have hO1 := hfirst0 hp
        subst hq
        subst hO1
        clear hq0 hq1 hfirst hfirst0 hp
        gi_wp2_with (refine ⟨trivial, (fun h => by cases h), ?_⟩; refine CallsIn.mono (show CallsIn (Fence.wide.inRound l) _ _ _ _ _ _ from callsIn_wide.2 (HC.out _)) ?_; rintro e w' ⟨rfl, rfl⟩)
        refine ⟨KeepUp.setR (KeepUp.set (by omega) _) (by omega) _, ?_⟩
        show L2 _ _ _ _ _ _ (outOf s (pre ++ [x])) (pre ++ [x]).length
        rw [HQL.out, ← HO2.out]
        exact (HI3.out.setOut O2 (by omega) (by omega) (by omega)).setN (by omega) (by omega) (by omega)
      · have hq := hq1 hp
        have hqi : (0 : Int) < (q : Int) := by omega
        have hO1 := hfirst hp
        have hOa1 : ¬ 9223372036854775807 < Oa.size + 1 := by omega
        clear hq0 hq1 hfirst hfirst0 hp
        gi_wp2_with (refine ⟨trivial, (fun h => by cases h), ?_⟩; refine CallsIn.mono (show CallsIn (Fence.wide.inRound l) _ _ _ _ _ _ from callsIn_wide.2 (HC.out _)) ?_; rintro e w' ⟨rfl, rfl⟩)
        refine ⟨KeepUp.setR (KeepUp.setR (KeepUp.set (by omega) _) (by omega) _) (by omega) _, ?_⟩
        show L2 _ _ _ _ _ _ (outOf s (pre ++ [x])) (pre ++ [x]).length
        rw [HQL.out, ← HO2.out]
        exact ((HI3.out.setOut O (by omega) (by omega) (by omega)).setOut O2 (by omega) (by omega) (by omega)).setN (by omega) (by omega) (by omega)
    · intro D2 W3 hD2 hI3 hK2'
      have hout : outOf s (spansAt s 0) = s := by
        unfold outOf spansAt
        rw [spans_last]
        simp [← Lib.size_eq]
      have hcnt : (spansAt s 0).length = s.data.toList.count 10 + 1 := by
        unfold spansAt
        rw [spans_count]
        simp
      rw [hout] at hI3
      obtain ⟨m, hm⟩ : ∃ m, m = s.data.toList.count 10 := ⟨_, rfl⟩
      rw [hcnt, ← hm] at hI3
      have HCt := Lib.hid (count_one s)
      rw [← hm] at HCt
      have hm1 : m ≤ 5000 := by
        have := List.count_le_length (a := (10 : UInt8)) (l := s.data.toList)
        rw [← hm, ← Lib.size_eq] at this
        omega
      have hmix : Try.prog.follows .mixedOrders = true := by kernel_rfl
      clear hout hcnt hm hI2 hlen
      gi_wp2
      refine wpIn_region_any hmix ?_
      refine heldInB 13 (by kernel_rfl) (by kernel_rfl) (by kernel_rfl) (by kernel_rfl) (fun w' => Below W3.heap.size W3 w')
        (fun i => match i with
          | 0 => .string s
          | 1 => .string s
          | 4 => .int .i64 ((m : Int) + 1)
          | 5 => .string s
          | 6 => .int .i64 m
          | 7 => .int .i64 ((m : Int) + 1)
          | _ => .bool true) _ (by kernel_rfl) (by kernel_rfl) ?_ ?_ _ ?_
      · intro i hi a w' hS hd hb
        have e1 : w'.cell? ⟨W1.heap.size, 0, none⟩ = some (.string s) := (hI3.b3.below hS hI3.b3.lt).cell 0
        have e2 : w'.cell? ⟨W1.heap.size + 1, 0, none⟩ = some (.int .i64 ((m : Int) + 1)) := by
          have := (hI3.b4.below hS hI3.b4.lt).cell 0
          simpa using this
        have s0 := hb 0 (by kernel_rfl)
        have s4 := hb 4 (by kernel_rfl)
        have s7 := hb 7 (by kernel_rfl)
        have s8 := hb 8 (by kernel_rfl)
        obtain ⟨T, dl⟩ := a
        simp only [List.getElem?_toArray, List.getElem?_cons_zero, List.getElem?_cons_succ] at s0 s4 s7 s8
        have hwr : IntKind.i64.wrap ((m : Int) + 1) = (m : Int) + 1 := by rw [IntKind.wrap_i64]; omega
        rcases i with _ | _ | _ | _ | _ | _ | _ | _ | _ | _ | _ | _ | _ | i
        · refine wpOpIn_step rfl fun K' hK => ?_
          clear hd hb
          go_simp
          exact hK _ _ ⟨rfl, hS⟩
        · refine wpOpIn_step rfl fun K' hK => ?_
          clear hd hb
          go_simp
          exact hK _ _ ⟨rfl, hS⟩
        · refine wpOpIn_step rfl fun K' hK => ?_
          have d0 := hd 0 58 (by kernel_rfl) rfl
          have d1 := hd 1 59 (by kernel_rfl) rfl
          dsimp only at d0 d1
          clear hd hb
          go_simp
          exact hK _ _ ⟨rfl, hS⟩
        · refine wpOpIn_step rfl fun K' hK => ?_
          have d0 := hd 2 60 (by kernel_rfl) rfl
          dsimp only at d0
          clear hd hb
          go_simp
          exact hK _ _ ⟨rfl, hS⟩
        · refine wpOpIn_step rfl fun K' hK => ?_
          have d0 := hd 3 61 (by kernel_rfl) rfl
          dsimp only at d0
          clear hd hb
          go_simp
          exact hK _ _ ⟨rfl, hS⟩
        · refine wpOpIn_step rfl fun K' hK => ?_
          have d0 := hd 3 61 (by kernel_rfl) rfl
          dsimp only at d0
          clear hd hb
          go_simp
          exact hK _ _ ⟨rfl, hS⟩
        · refine wpOpIn_step rfl fun K' hK => ?_
          have d0 := hd 5 63 (by kernel_rfl) rfl
          have d1 := hd 3 61 (by kernel_rfl) rfl
          dsimp only at d0 d1
          clear hd hb
          go_simp
          refine ⟨trivial, ?_⟩
          gi_at_call 14
          refine CallsIn.mono (callsIn_wide.2 (HCt.out _)) ?_
          rintro e w2 ⟨rfl, rfl⟩
          exact hK _ _ ⟨rfl, hS⟩
        · refine wpOpIn_step rfl fun K' hK => ?_
          have d0 := hd 6 64 (by kernel_rfl) rfl
          have d1 := hd 3 61 (by kernel_rfl) rfl
          dsimp only at d0 d1
          clear hd hb
          go_simp
          exact hK _ _ ⟨rfl, hS⟩
        · refine wpOpIn_step rfl fun K' hK => ?_
          have d0 := hd 4 62 (by kernel_rfl) rfl
          have d1 := hd 7 65 (by kernel_rfl) rfl
          have d2 := hd 3 61 (by kernel_rfl) rfl
          dsimp only at d0 d1 d2
          clear hd hb
          go_simp
          exact hK _ _ ⟨rfl, hS⟩
        · refine wpOpIn_step rfl fun K' hK => ?_
          have d0 := hd 3 61 (by kernel_rfl) rfl
          have d1 := hd 8 66 (by kernel_rfl) rfl
          dsimp only at d0 d1
          clear hd hb
          go_simp
          exact hK _ _ ⟨rfl, hS⟩
        · refine wpOpIn_step rfl fun K' hK => ?_
          have d0 := hd 9 67 (by kernel_rfl) rfl
          dsimp only at d0
          clear hd hb
          go_simp
          exact hK _ _ ⟨rfl, hS⟩
        · refine wpOpIn_step rfl fun K' hK => ?_
          have d0 := hd 10 68 (by kernel_rfl) rfl
          dsimp only at d0
          clear hd hb
          go_simp
          refine ⟨trivial, ?_⟩
          gi_at_call 9
          refine CallsIn.mono (callsIn_wide.2 (known_any _)) ?_
          rintro e w2 ⟨rfl, hB⟩
          exact hK _ _ ⟨rfl, hS.trans (hB.mono hS.size)⟩
        · refine wpOpIn_step rfl fun K' hK => ?_
          have d0 := hd 10 68 (by kernel_rfl) rfl
          have d1 := hd 11 69 (by kernel_rfl) rfl
          dsimp only at d0 d1
          clear hd hb
          go_simp
          exact hK _ _ ⟨rfl, hS⟩
        · omega
      · intro w' hS
        have hb4 := hI3.b4.lt
        have hI4 : L2 w' w s D W1.heap.size (w.heap.size + 1 + 1) s (m + 1) := hI3.low (by omega) (by omega) (by omega) (hS.mono (by omega))
        have c1 := hI4.b1.cell 0
        have f1 := hI4.b1.frozen 0
        have l1 := hI4.b1.lt
        simp only [List.getElem?_toArray, List.getElem?_cons_zero, List.getElem?_cons_succ] at c1
        simp only [fillTo, dstOf, Act.put, List.getElem?_toArray, List.getElem?_cons_zero, List.getElem?_cons_succ, Option.bind_some, List.setIfInBounds_toArray, List.set_cons_succ, List.set_cons_zero]
        refine wpAnyIn_ready (fuel := 0) (rs := [13]) (by kernel_rfl) (by simp) (AllReadyIn.cons rfl (fun K2 hK2 => ?_) AllReadyIn.nil)
        go_simp
        refine hK2 _ _ (wpAnyIn_done (by kernel_rfl) ?_ _)
        have HI5 := Lib.hid (hI4.b1.set 0 (.bool true))
        have e1 : ¬ D2 = w.heap.size + 1 := by omega
        have e2 : ¬ D = w.heap.size + 1 := by omega
        have hd2 : w'.heap[D2]? = some (.deferred (some [])) := (hS.block D2 (Array.getElem?_eq_some_iff.1 hK2').1).trans hK2'
        have HK2 : Hid ((w'.setCell ⟨w.heap.size + 1, 0, none⟩ (.bool true)).heap[D2]? = some (.deferred (some []))) := Lib.hid ((Below.heap_setCell w' _ _ D2 e1).trans hd2)
        have HK1 : Hid (((w'.setCell ⟨w.heap.size + 1, 0, none⟩ (.bool true)).putObj D2 (.deferred none)).heap[D]? = some (.deferred (some []))) :=
          Lib.hid ((World.putObj_heap_other (by omega)).trans ((Below.heap_setCell w' _ _ D e2).trans hI4.d))
        have HB := Lib.hid (hI4.b.setCell (p := ⟨w.heap.size + 1, 0, none⟩) (by show w.heap.size ≤ w.heap.size + 1; omega) (.bool true))
        clear hI4 hI3 hd2 hK2'
        gi_wp2
        refine ⟨by simp, .inl ⟨_, _, rfl, run_takeDeferred HK2.out, by simp, .inl ⟨_, _, rfl, run_takeDeferred HK1.out, ?_⟩⟩⟩
        have hc := (show Blk (((w'.setCell ⟨w.heap.size + 1, 0, none⟩ (.bool true)).putObj D2 (.deferred none)).putObj D (.deferred none)) (w.heap.size + 1) 4 #[.bool true] from (World.putObj_heap_other (by omega)).trans ((World.putObj_heap_other (by omega)).trans HI5.out)).cell 0
        exact ⟨.bool true, by simp [results, Try.results4, go_sem, hc], rfl, putB (putB HB.out (by omega)) (by omega)⟩
      · exact ⟨rfl, rfl, rfl, Nat.le_refl _, fun _ _ => rfl⟩

theorem lawLines (s : ByteArray) (leave : Int) (w : World) : Calls Try.prog 4 #[.string s, .int .i64 leave] w fun e w' => e = .returned (.bool true) ∧ Below w.heap.size w w' := by
  by_cases hbig : 5000 < s.size
  · have d1 : (5000 : Int) < s.size := by omega
    go_enter Try.func4, Try.ntmps4
    go_wp2_with fail
    refine (known_any _).mono ?_
    rintro e w1 ⟨rfl, hB⟩
    have k1 : Blk w1 (w.heap.size + 1) 4 #[.bool false] := by
      have := Blk.new (w.alloc (.cells #[.int .i64 leave] 3)) 4 #[.bool false]
      rw [World.size_alloc] at this
      exact this.below hB this.lt
    have c1 := k1.cell 0
    have f1 := k1.frozen 0
    have l1 := k1.lt
    simp only [List.getElem?_toArray, List.getElem?_cons_zero] at c1
    have hB1 : Below w.heap.size w w1 := (((Below.refl _ w).alloc (Nat.le_refl _) _).alloc (by simp) _).trans (hB.mono (by simp; omega))
    have HB := Lib.hid (hB1.setCell (p := ⟨w.heap.size + 1, 0, none⟩) (by show w.heap.size ≤ w.heap.size + 1; omega) (.bool true))
    have hc := (k1.set 0 (.bool true)).cell 0
    clear hB hB1 k1
    go_wp2
    refine bodyPost_ret (v := .bool true) (by simp [results, Try.results4, go_sem, hc]) rfl ?_
    exact ⟨rfl, HB.out⟩
  · exact callsIn_wide.1 (lawLines_in 8 (Nat.le_refl _) s (by omega) leave w)
end Go.Proofs.Ytmlkeddiagmedaa
