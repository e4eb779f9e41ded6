import Derived.Maps.OwnIn
import Derived.StringKeys
import Derived.Test.YtiihdbchchnncaaC5
import Derived.Test.YtiihdbchchnncaaLow
namespace Go.Proofs.Ytiihdbchchnncaa
open Go Go.RowKit Go.Shelf Go.Maps

attribute [local go_sem] Oper.semAt_some

/-- The first m names with their numbers, from the last one on. -/
def bk (l : List ByteArray) (m : Nat) : List (Nat × ByteArray) := ((l.take m).zipIdx.map fun p => (p.2, p.1)).reverse
theorem bk_succ (l : List ByteArray) (m : Nat) (x : ByteArray) (h : l[m]? = some x) : bk l (m + 1) = (m, x) :: bk l m := by
  have hm : m < l.length := (List.getElem?_eq_some_iff.1 h).1
  unfold bk
  rw [List.take_add_one, h]
  simp only [Option.toList_some, List.zipIdx_append, List.map_append, List.reverse_append, List.length_take, Nat.min_eq_left (Nat.le_of_lt hm)]
  simp
def encB (x : Nat × ByteArray) : Array Value := #[.int .i64 x.1, .string x.2]

set_option maxRecDepth 100000 in
set_option maxHeartbeats 1000000 in
theorem back_low (n : Nat) (hn : 1 ≤ n) (Bn : Nat) (a : Option Addr) (c : Nat) (l : List ByteArray) (hl : l.length ≤ 1048576) (w : World) :
    LowSeq n Try.prog 86 #[.pointer (some ⟨Bn, 0, none⟩)] encB (bk l l.length) (fun A => A.cell? ⟨Bn, 0, none⟩ = some (.slice a l.length c) ∧ RowStr A a l) w := by
  intro L J Jx W hW hR hJ hJx hY h0
  have HR := Lib.hid hR
  have HY := Lib.hid hY
  obtain ⟨hBn, _⟩ := hR _ _ h0
  clear hR hY hJ hJx
  refine callsIn_of_wp Try.func86 rfl trivial ?_ rfl
  simp only [Try.ntmps86, List.size_toArray, List.length_cons, List.length_nil, Nat.reduceAdd, Nat.reduceSub, Array.replicate_succ, Array.replicate_zero, List.push_toArray, List.append_toArray, List.nil_append, List.cons_append]
  gi_wp2
  gi_loopw [3] (fun p wr => ∃ (pre : List (Nat × ByteArray)) (m : Nat) (z : Int), p = .int .i64 z ∧ z + 1 = m ∧ m ≤ l.length ∧ Hid (bk l l.length = pre ++ bk l m) ∧ J pre wr)
    (fun p _ => (intOf p + 1).toNat)
  case atStart => exact ⟨[], l.length, _, rfl, by omega, Nat.le_refl _, Lib.hid rfl, h0⟩
  case round =>
    clear h0 hBn
    obtain ⟨pre, m, z, rfl, hz, hm, hx, hJs⟩ := hrel
    obtain ⟨hcell, hrow⟩ := HR.out _ _ hJs
    by_cases hneg : z < 0
    · obtain rfl : m = 0 := by omega
      have hx2 : Hid (bk l l.length = pre) := Lib.hid (by rw [hx.out]; simp [bk])
      clear hz hx hrow
      gi_wp2
      go_end0
      exact ⟨⟨_, rfl⟩, .inl (by rw [hx2.out]; exact hJs)⟩
    · obtain ⟨k, rfl⟩ := Int.eq_ofNat_of_zero_le (a := z) (by omega)
      obtain rfl : m = k + 1 := by omega
      obtain ⟨x, hxk⟩ : ∃ x, l[k]? = some x := ⟨_, List.getElem?_eq_getElem (by omega)⟩
      have hs : Hid (bk l (k + 1) = (k, x) :: bk l k) := Lib.hid (bk_succ l k x hxk)
      obtain ⟨b, off, rfl, hbw, hc, _⟩ := hrow k x hxk
      have c0 := Str_at hc
      rw [Nat.mul_one] at c0
      have hkl : (k : Int) < (l.length : Int) := by omega
      obtain ⟨fn, tmps, assign, body, hy, hRd⟩ := HY.out pre (k, x) wr (by rw [hx.out, hs.out]; exact ⟨bk l k, by simp⟩) hJs
      have HRd := Lib.hid hRd
      have hx3 : Hid (bk l l.length = (pre ++ [(k, x)]) ++ bk l k) := Lib.hid (by rw [hx.out, hs.out]; simp)
      have hk2 : k ≤ l.length := by omega
      dsimp only [encB] at hy
      clear hrow hc hs hx hxk hm hz hneg hRd
      gi_wp2
      refine HRd.out.mono ?_
      rintro e W3 (⟨rfl, hJ3, _⟩ | ⟨rfl, hJx3, _⟩)
      · gi_wp2
        go_roundw
        case rel => exact ⟨pre ++ [(k, x)], k, (k : Int) - 1, by simp, by omega, hk2, hx3, hJ3⟩
        case measure => simp [intOf]
      · gi_wp2
        refine bodyPost_ret (results_none rfl _ _ _) rfl ?_
        exact ⟨⟨_, rfl⟩, .inr ⟨_, by rw [hx3.out]; exact List.prefix_append _ _, hJx3⟩⟩

/-- The map of names to numbers behind so many of them. -/
def nameD (pre : List (Nat × ByteArray)) : DataW Unit := pre.foldl (fun D x => D.put (.string x.2.data.toList) (.lit (.int .i64 x.1))) (.map [])
theorem nameD_snoc (pre : List (Nat × ByteArray)) (x : Nat × ByteArray) : nameD (pre ++ [x]) = (nameD pre).put (.string x.2.data.toList) (.lit (.int .i64 x.1)) := by simp [nameD, List.foldl_append]
noncomputable abbrev el3 := plainElem (H := Unit) Try.prog 3

theorem backward_any (a : Option Addr) (n c : Nat) (w : World) : Calls Try.prog 64 #[.slice a n c] w fun e w' => e = .returned (.func (.func 86) #[] #[.pointer (some ⟨w.heap.size, 0, none⟩)]) ∧ w' = w.alloc (.cells #[.slice a n c] 22) := by
  go_enter Try.func64, Try.ntmps64
  go_wp2
  go_ret
  exact ⟨rfl, rfl⟩

/-- What byName's blocks hold. -/
structure NB (w : World) (a : Option Addr) (c : Nat) (l : List ByteArray) (pre : List (Nat × ByteArray)) (W : World) : Prop where
  box : Blk W (w.heap.size + 1) 89 #[.map (some w.heap.size)]
  arg : Blk W (w.heap.size + 1 + 1) 22 #[.slice a l.length c]
  own : W.ownsMap Try.prog 9 el3 w.heap.size pre.length (nameD pre)
  b : Below w.heap.size w W
theorem own_block {W W' : World} {b n : Nat} {D : DataW Unit} (h : W.ownsMap Try.prog 9 el3 b n D) (hb : W'.heap[b]? = W.heap[b]?) : W'.ownsMap Try.prog 9 el3 b n D := by
  obtain ⟨es, clock, e1, e2⟩ := h
  exact ⟨es, clock, hb.trans e1, e2⟩
theorem NB.low {w W W' : World} {a : Option Addr} {c : Nat} {l : List ByteArray} {pre : List (Nat × ByteArray)} (h : NB w a c l pre W) (hB : Below (w.heap.size + 3) W W') : NB w a c l pre W' :=
  ⟨h.box.below hB (by omega), h.arg.below hB (by omega), own_block h.own (hB.block _ (by omega)), h.b.trans (hB.mono (by omega))⟩

set_option maxRecDepth 100000 in
set_option maxHeartbeats 2000000 in
theorem byName_in (n : Nat) (hn : 8 ≤ n) (a : Option Addr) (c : Nat) (l : List ByteArray) (hl : l.length ≤ 1048576) (hs : ∀ s, s ∈ l → s.size ≤ 1048576) (w : World) (hrow : RowStr w a l) :
    CallsIn Fence.wide n Try.prog 41 #[.slice a l.length c] w fun e w' => e = .returned (.map (some w.heap.size)) ∧ w'.ownsMap Try.prog 9 el3 w.heap.size l.length (nameD (bk l l.length)) ∧ Below w.heap.size w w' := by
  have h1 : 1 ≤ n := by omega
  have hmm := @run_makeMap Try.prog
  have HS := Lib.hid hs
  have HRow := Lib.hid hrow
  clear hs hrow
  refine callsIn_of_wp_marks Try.func41 rfl trivial ?_ rfl
  simp only [Try.ntmps41, List.size_toArray, List.length_cons, List.length_nil, Nat.reduceAdd, Nat.reduceSub, Array.replicate_succ, Array.replicate_zero, List.push_toArray, List.append_toArray, List.nil_append, List.cons_append]
  gi_wp2_with (refine ⟨trivial, ?_⟩; gi_at_call 64; refine (callsIn_wide.2 (backward_any a _ c _)).mono ?_; rintro e w' ⟨rfl, rfl⟩)
  obtain ⟨W0, hW0⟩ : ∃ W0, W0 = ((w.alloc (.map #[] 0)).alloc (.cells #[.map (some w.heap.size)] 89)).alloc (.cells #[.slice a l.length c] 22) := ⟨_, rfl⟩
  have hs0 : W0.heap.size = w.heap.size + 3 := by rw [hW0]; simp
  have hI0 : NB w a c l [] W0 := by
    have k1 := Blk.new (w.alloc (.map #[] 0)) 89 #[.map (some w.heap.size)]
    have k2 := Blk.new ((w.alloc (.map #[] 0)).alloc (.cells #[.map (some w.heap.size)] 89)) 22 #[.slice a l.length c]
    simp only [World.size_alloc] at k1 k2
    rw [hW0]
    exact ⟨k1.alloc _, k2, ((World.ownsMap_made w Try.prog 9 el3).alloc _).alloc _, (((Below.refl _ w).alloc (Nat.le_refl _) _).alloc (by simp) _).alloc (by simp; omega) _⟩
  rw [← hW0]
  clear hW0
  have hlen : (bk l l.length).length = l.length := by simp [bk]
  refine rangeFunc_low h1 (gf := 86) (lb := #[.pointer (some ⟨w.heap.size + 1 + 1, 0, none⟩)]) rfl (enters_of Try.func86 (by kernel_rfl) rfl)
    (back_low (n - 1) (by omega) (w.heap.size + 1 + 1) a c l hl W0) (fun _ => rfl)
    (fun pre W => NB w a c l pre W) (fun _ _ _ => False)
    (fun t A B h hB => h.low (by rw [← hs0]; exact hB)) (fun c t A B h hB => h)
    (fun t A h => ⟨h.arg.cell 0, HRow.out.belowN h.b⟩) hI0 ?round ?done ?stop
  case round =>
    intro lp pre x W hpre hI hsz
    have hpl := hpre.length_le
    rw [List.length_append, List.length_singleton, hlen] at hpl
    obtain ⟨i, s⟩ := x
    have hmem : s ∈ l := by
      have : (i, s) ∈ bk l l.length := hpre.subset (by simp)
      unfold bk at this
      rw [List.mem_reverse, List.mem_map] at this
      obtain ⟨p, hp, e⟩ := this
      cases e
      have := List.mem_zipIdx hp
      rw [List.take_length] at hp
      obtain ⟨h1, h2⟩ := List.mem_zipIdx' hp
      rw [h2]; exact List.getElem_mem _
    have hi : i < 1048576 := by
      have : (i, s) ∈ bk l l.length := hpre.subset (by simp)
      unfold bk at this
      rw [List.mem_reverse, List.mem_map] at this
      obtain ⟨p, hp, e⟩ := this
      cases e
      rw [List.take_length] at hp
      obtain ⟨h1, h2⟩ := List.mem_zipIdx' hp
      omega
    have HK := Lib.hid (WideMaps.keyOf_string_mk Try.underlying9 (s := s) (by have := HS.out s hmem; unfold maxLen; omega))
    have HQ := Lib.hid (nameD_snoc pre (i, s))
    simp only [encB]
    gi_wp2
    refine ⟨KeepUp.refl _ _, ?_⟩
    intro o
    intros
    obtain ⟨W2, hW2⟩ : ∃ W2, W2 = W.putObj (w.heap.size + 3 + 1) o := ⟨_, rfl⟩
    have hI2 : NB w a c l pre W2 := hI.low (by rw [hW2]; exact putB (Below.refl _ W) (by omega))
    rw [← hW2]
    have c0 := hI2.box.cell 0
    simp only [List.getElem?_toArray, List.getElem?_cons_zero] at c0
    have hown := hI2.own
    have l3 := hI2.arg.lt
    have HI2 := Lib.hid hI2
    clear hI2 hI hI0 hW2 hmem
    gi_wp2_with (gi_at_mapUpdate; refine wpListIn_mapUpdate_own _ rfl _ _ _ 89 rfl 9 3 key9 Try.underlying89 el3 w.heap.size pre.length _ rfl hown (by unfold maxLen; omega) _ _ _ rfl rfl HK.out _ [] (plainElem_int Try.underlying3 (wf_int (n := (i : Int)) ⟨by omega, by omega⟩)) ?_; intro w1 hown1 hgrow1)
    have hb1 : ∀ k, k ≠ w.heap.size → k < W2.heap.size → w1.heap[k]? = W2.heap[k]? := fun k hk hlt => hgrow1.block k hlt (fun e => hk (by cases e; rfl))
    refine ⟨⟨hgrow1.size, fun k o hk ho => ?_⟩, ?_⟩
    · rw [hb1 k (by omega) (Array.getElem?_eq_some_iff.1 ho).1]; exact ho
    · refine ⟨(hb1 _ (by omega) (by omega)).trans HI2.out.box, (hb1 _ (by omega) (by omega)).trans HI2.out.arg, ?_, HI2.out.b.grown hgrow1 HI2.out.b.size (fun j hj => by cases hj; exact Nat.le_refl _)⟩
      rw [HQ.out, List.length_append]
      exact hown1
  case done =>
    intro D W1 hD hI1 hK1
    have c0 := hI1.box.cell 0
    simp only [List.getElem?_toArray, List.getElem?_cons_zero] at c0
    have HI1 := Lib.hid hI1
    clear hI1 hI0
    gi_wp2
    refine ⟨by simp, .inl ⟨_, _, rfl, run_takeDeferred hK1, ?_⟩⟩
    refine ⟨_, results_tmp rfl _ _ _, rfl, ?_, putB HI1.out.b (by omega)⟩
    have h := own_block HI1.out.own (W' := W1.putObj D (.deferred none)) (World.putObj_heap_other (by omega))
    rw [hlen] at h
    exact h
  case stop =>
    rintro _ _ _ _ _ _ h
    exact h.elim
end Go.Proofs.Ytiihdbchchnncaa
