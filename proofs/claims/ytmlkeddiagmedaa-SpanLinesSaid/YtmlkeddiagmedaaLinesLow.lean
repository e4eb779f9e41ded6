import Derived.Test.YtmlkeddiagmedaaLow48
import Derived.Test.YtmlkeddiagmedaaNth
import Derived.Test.YtmlkeddiagmedaaDiff2
import Derived.Test.YtmlkeddiagmedaaChain
import Derived.Test.YtmlkeddiagmedaaHeld
namespace Go.Proofs.Ytmlkeddiagmedaa
open Go Go.RowKit Go.Shelf

attribute [local go_sem] Oper.semAt_some
/-- What Lines tells of a line. -/
def encL (s : ByteArray) (x : Nat × Nat) : Array Value := #[spanV x, .string (s.extract x.1 x.2)]

/-- What yield's round does is done in whatever round. -/
theorem roundIn_any {m m' l l' : Nat} {P : Program} {f : FuncId} {tmps : Array Value} {assign body : Code} {w : World} {R : Ending → World → Prop} (h : RoundIn Fence.wide m P l f tmps assign body w R) :
    RoundIn (Fence.wide.inRound l') m' P l f tmps assign body w R := ⟨h.1, fun c cs _ => h.2 c cs (room_wide _)⟩

set_option maxRecDepth 100000 in
set_option maxHeartbeats 4000000 in
theorem lines_low (n : Nat) (hn : 6 ≤ n) (Bt : Nat) (s : ByteArray) (hs : s.size ≤ 5000) (w : World) :
    LowSeq n Try.prog 25 #[.pointer (some ⟨Bt, 0, none⟩)] (encL s) (spansAt s 0) (fun A => A.cell? ⟨Bt, 0, none⟩ = some (.string s)) w := by
  intro l J Jx W hW hR hJ hJx hY h0
  have c0 := hR _ _ h0
  have c1 := hR _ _ (hJ _ _ _ h0 ((Below.refl _ W).alloc (Nat.le_refl _) (.cells #[.func (.yield l) #[] #[]] 57)))
  have h1 : 1 ≤ n := by omega
  refine callsIn_of_wp_marks Try.func25 rfl trivial ?_ rfl
  simp only [Try.ntmps25, List.size_toArray, List.length_cons, List.length_nil, Nat.reduceAdd, Nat.reduceSub, Array.replicate_succ, Array.replicate_zero, List.push_toArray, List.append_toArray, List.nil_append, List.cons_append]
  gi_wp2_with (refine ⟨trivial, ?_⟩; gi_at_call 26; refine (lineSpans_in (n - 1) _ _).mono ?_; rintro e w' ⟨rfl, rfl⟩)
  obtain ⟨W0, hW0⟩ : ∃ W0, W0 = (W.alloc (.cells #[.func (.yield l) #[] #[]] 57)).alloc (.cells #[.string s] 9) := ⟨_, rfl⟩
  have hs0 : W0.heap.size = W.heap.size + 2 := by rw [hW0]; simp
  have hB0 : Below W.heap.size W W0 := by rw [hW0]; exact ((Below.refl _ W).alloc (Nat.le_refl _) _).alloc (by simp) _
  have b0 : Blk W0 W.heap.size 57 #[.func (.yield l) #[] #[]] := by rw [hW0]; exact (Blk.new W 57 _).alloc _
  have b1 : Blk W0 (W.heap.size + 1) 9 #[.string s] := by
    have := Blk.new (W.alloc (.cells #[.func (.yield l) #[] #[]] 57)) 9 #[.string s]
    rw [World.size_alloc] at this
    rw [hW0]; exact this
  rw [← hW0]
  clear hW0
  refine rangeFunc_low h1 (gf := 48) (lb := #[.pointer (some ⟨W.heap.size + 1, 0, none⟩)]) rfl (enters_of Try.func48 (by kernel_rfl) rfl)
    (spans_low (n - 1) (by omega) (W.heap.size + 1) s (by omega) W0) (fun _ => rfl)
    (fun pre A => J pre A ∧ Blk A W.heap.size 57 #[.func (.yield l) #[] #[]] ∧ Blk A (W.heap.size + 1) 9 #[.string s])
    (fun c pre A => c = .ret ∧ Jx pre A)
    (fun t A B h hB => ⟨hJ t A B h.1 (hB.mono (by omega)), h.2.1.below hB (by omega), h.2.2.below hB (by omega)⟩)
    (fun c t A B h hB => ⟨h.1, hJx t A B h.2 (hB.mono (by omega))⟩)
    (fun t A h => h.2.2.cell 0) ⟨hJ _ _ _ h0 hB0, b0, b1⟩ ?round ?done ?stop
  case round =>
    intro l' pre x A hpre ⟨hJA, ba0, ba1⟩ hsz
    have hx := spansAt_bd s x (hpre.subset (by simp))
    have hx1 : (x.1 : Int) ≤ x.2 := by omega
    have hx2 : (x.2 : Int) ≤ s.size := by omega
    have hmix : Try.prog.follows .mixedOrders = true := by kernel_rfl
    dsimp only [spanV]
    gi_wp2
    refine ⟨KeepUp.of_below ((Below.refl _ A).alloc (Nat.le_refl _) _) (Nat.le_refl _), ?_⟩
    rintro W2 ⟨o, rfl⟩ -
    obtain ⟨W2, hW2⟩ : ∃ W2, W2 = (A.alloc (.cells #[.int .i64 x.1, .int .i64 x.2] 35)).putObj (W0.heap.size + 1) o := ⟨_, rfl⟩
    have hT : Blk W2 A.heap.size 35 #[.int .i64 x.1, .int .i64 x.2] := by
      rw [hW2]; exact (World.putObj_heap_other (by omega)).trans (Blk.new A 35 _)
    rw [← hW2]
    gi_wp2
    refine wpIn_region_any hmix ?_
    have g0 : Blk W2 W.heap.size 57 #[.func (.yield l) #[] #[]] := by
      rw [hW2]; exact ((World.putObj_heap_other (by omega)).trans (ba0.alloc _))
    have g1 : Blk W2 (W.heap.size + 1) 9 #[.string s] := by
      rw [hW2]; exact ((World.putObj_heap_other (by omega)).trans (ba1.alloc _))
    have hJ2 : J pre W2 := hJ _ _ _ hJA (by rw [hW2]; exact putB ((Below.refl _ A).alloc (by omega) _) (by omega))
    have hc2 := hR _ _ hJ2
    refine heldInB 9 (by kernel_rfl) (by kernel_rfl) (by kernel_rfl) (by kernel_rfl) (fun w' => Below W2.heap.size W2 w')
      (fun i => match i with
        | 0 => .func (.yield l) #[] #[]
        | 1 => .agg #[.int .i64 x.1, .int .i64 x.2]
        | 2 => .string s
        | 3 => .pointer (some ⟨A.heap.size, 0, none⟩)
        | 4 => .int .i64 x.1
        | 5 => .pointer (some ⟨A.heap.size, 1, none⟩)
        | 6 => .int .i64 x.2
        | _ => .string (s.extract x.1 x.2)) _ (by kernel_rfl) (by kernel_rfl) ?step ?fin _ ?start
    case start => exact ⟨rfl, rfl, rfl, Nat.le_refl _, fun _ _ => rfl⟩
    case step =>
      intro i hi a w' hS hd hb
      have e1 : w'.cell? ⟨W.heap.size, 0, none⟩ = some (.func (.yield l) #[] #[]) := (g0.below hS g0.lt).cell 0
      have e2 : w'.cell? ⟨A.heap.size, 0, none⟩ = some (.int .i64 x.1) := (hT.below hS hT.lt).cell 0
      have e3 : w'.cell? ⟨A.heap.size, 1, none⟩ = some (.int .i64 x.2) := (hT.below hS hT.lt).cell 1
      have e4 : w'.cell? ⟨Bt, 0, none⟩ = some (.string s) := by
        have := World.block_lt_of_cell? W2 _ hc2
        exact (hS.cell (p := ⟨Bt, 0, none⟩) this).trans hc2
      have s1 := hb 1 (by kernel_rfl)
      have s2 := hb 2 (by kernel_rfl)
      have s3 := hb 3 (by kernel_rfl)
      obtain ⟨T, dl⟩ := a
      simp only [List.getElem?_toArray, List.getElem?_cons_zero, List.getElem?_cons_succ] at s1 s2 s3
      rcases i with _ | _ | _ | _ | _ | _ | _ | _ | _ | i
      · refine wpOpIn_step rfl fun K' hK => ?_
        clear hd hb
        go_simp
        exact hK _ _ ⟨rfl, hS⟩
      · refine wpOpIn_step rfl fun K' hK => ?_
        clear hd hb
        go_simp
        exact hK _ _ ⟨rfl, hS⟩
      · refine wpOpIn_step rfl fun K' hK => ?_
        clear hd hb
        go_simp
        exact hK _ _ ⟨rfl, hS⟩
      · refine wpOpIn_step rfl fun K' hK => ?_
        clear hd hb
        go_simp
        exact hK _ _ ⟨rfl, hS⟩
      · refine wpOpIn_step rfl fun K' hK => ?_
        have d1 := hd 3 10 (by kernel_rfl) rfl
        dsimp only at d1
        clear hd hb
        go_simp
        exact hK _ _ ⟨rfl, hS⟩
      · refine wpOpIn_step rfl fun K' hK => ?_
        clear hd hb
        go_simp
        exact hK _ _ ⟨rfl, hS⟩
      · refine wpOpIn_step rfl fun K' hK => ?_
        have d1 := hd 5 12 (by kernel_rfl) rfl
        dsimp only at d1
        clear hd hb
        go_simp
        exact hK _ _ ⟨rfl, hS⟩
      · refine wpOpIn_step rfl fun K' hK => ?_
        have d1 := hd 2 9 (by kernel_rfl) rfl
        have d2 := hd 4 11 (by kernel_rfl) rfl
        have d3 := hd 6 13 (by kernel_rfl) rfl
        dsimp only at d1 d2 d3
        clear hd hb
        go_simp
        exact hK _ _ ⟨rfl, hS⟩
      · refine wpOpIn_step rfl fun K' hK => ?_
        have d1 := hd 7 14 (by kernel_rfl) rfl
        dsimp only at d1
        clear hd hb
        go_simp
        refine ⟨trivial, (fun h => by cases h), ?_⟩
        refine CallsIn.mono (show CallsIn Fence.wide _ _ _ _ _ _ from callsIn_wide.2 (sclone_any (s.extract x.1 x.2) w' (by simp; omega))) ?_
        rintro e w2 ⟨rfl, hB⟩
        exact hK _ _ ⟨rfl, hS.trans (hB.mono hS.size)⟩
      · omega
    case fin =>
      intro w' hS
      have hJ3 : J pre w' := hJ _ _ _ hJ2 (hS.mono (by rw [hW2]; simp; omega))
      obtain ⟨fn, tmps, assign, body, hy, hRd⟩ := hY pre x w' hpre hJ3
      simp only [fillTo, dstOf, Act.put, List.getElem?_toArray, List.getElem?_cons_zero, List.getElem?_cons_succ, Option.bind_some, List.setIfInBounds_toArray, List.set_cons_succ, List.set_cons_zero]
      refine wpAnyIn_ready (fuel := 1) (rs := [9]) (by kernel_rfl) (by simp) (AllReadyIn.cons rfl (fun K' hK => ?_) AllReadyIn.nil)
      simp only [encL, spanV] at hy
      go_simp
      refine ⟨(fun h => by cases h), (roundIn_any hRd).mono ?_⟩
      rintro e W3 (⟨rfl, hJ4, hk4⟩ | ⟨rfl, hJx4, hk4⟩)
      · refine hK _ _ (wpAnyIn_ready (fuel := 0) (rs := [10]) (by kernel_rfl) (by simp) (AllReadyIn.cons rfl (fun K2 hK2 => ?_) AllReadyIn.nil))
        go_simp
        refine hK2 _ _ (wpAnyIn_done (by kernel_rfl) ?_ _)
        gi_wp2
        exact ⟨(KeepUp.of_below hS (Nat.le_refl _)).trans (hk4.mono (by omega)), hJ4, hk4.up _ _ (Nat.le_refl _) (g0.below hS g0.lt), hk4.up _ _ (Nat.le_succ _) (g1.below hS g1.lt)⟩
      · refine hK _ _ (wpAnyIn_ready (fuel := 0) (rs := [10]) (by kernel_rfl) (by simp) (AllReadyIn.cons rfl (fun K2 hK2 => ?_) AllReadyIn.nil))
        go_simp
        refine hK2 _ _ (wpAnyIn_done (by kernel_rfl) ?_ _)
        gi_wp2
        exact ⟨(KeepUp.of_below hS (Nat.le_refl _)).trans (hk4.mono (by omega)), rfl, hJx4⟩
  case done =>
    intro D A hD hI hK
    gi_wp2
    refine ⟨by simp, .inl ⟨_, _, rfl, run_takeDeferred hK, ?_⟩⟩
    exact ⟨_, results_none rfl _ _ _, ⟨_, rfl⟩, .inl (hJ _ _ _ hI.1 (putB (Below.refl _ A) (by omega)))⟩
  case stop =>
    rintro D c pre A hD hpre ⟨rfl, hI⟩ hK
    gi_wp2
    refine ⟨by simp, .inl ⟨_, _, rfl, run_takeDeferred hK, ?_⟩⟩
    exact ⟨_, results_none rfl _ _ _, ⟨_, rfl⟩, .inr ⟨pre, hpre, hJx _ _ _ hI (putB (Below.refl _ A) (by omega))⟩⟩
end Go.Proofs.Ytmlkeddiagmedaa
