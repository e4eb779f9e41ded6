import Derived.Test.YtmlkeddiagmedaaIter
import Derived.Test.YtmlkeddiagmedaaBlk
namespace Go.Proofs.Ytmlkeddiagmedaa
open Go.RowKit Go.Shelf

attribute [local go_sem] Oper.semAt_some

theorem lineSpans_in (n : Nat) (s : ByteArray) (w : World) :
    CallsIn Fence.wide n Try.prog 26 #[.string s] w fun e w' => e = .returned (.func (.func 48) #[] #[.pointer (some ⟨w.heap.size, 0, none⟩)]) ∧ w' = w.alloc (.cells #[.string s] 9) := by
  refine callsIn_of_wp Try.func26 rfl trivial ?_ rfl
  simp only [Try.ntmps26, List.size_toArray, List.length_cons, List.length_nil, Nat.reduceAdd, Nat.reduceSub, Array.replicate_succ, Array.replicate_zero, List.push_toArray, List.append_toArray, List.nil_append, List.cons_append]
  gi_wp2
  go_ret
  exact ⟨rfl, rfl⟩

theorem lineSpans_stops (n : Nat) (hn : 1 ≤ n) (Bn : Nat) (s : ByteArray) (hs : s.size ≤ 140737488351232) (w : World) (hBn : Bn < w.heap.size) (hc : w.cell? ⟨Bn, 0, none⟩ = some (.string s)) :
    SeqStopsK Fence.wide n Try.prog 48 #[.pointer (some ⟨Bn, 0, none⟩)] (fun x : Nat × Nat => #[spanV x]) (KpT Bn) (fun ys => ys = spansAt s 0) (fun pre => pre <+: spansAt s 0) (spansAt s 0).length w := fun l J Jx W hW _ _ hY h0 =>
  lineSpans1_in n hn l Bn s hs J Jx hY W ((hW.cell (p := ⟨Bn, 0, none⟩) hBn).trans hc) h0

theorem spansL_length (l : List UInt8) : ∀ f c, (spansL f c l).length ≤ l.length + 1 := by
  induction l with
  | nil => intro f c; simp [spansL]
  | cons b r ih =>
    intro f c
    rw [spansL_cons]
    split
    · have := ih (c + 1) (c + 1); simp; omega
    · have := ih f (c + 1); simp; omega

theorem spansAt_length (s : ByteArray) : (spansAt s 0).length ≤ s.size + 1 := by
  have := spansL_length (s.data.toList.drop 0) 0 0
  simpa [spansAt] using this

def nthPost (s : ByteArray) (N : Int) (w : World) (e : Ending) (w' : World) : Prop :=
  Below w.heap.size w w' ∧ ((∃ (k : Nat) (x : Nat × Nat), N = k + 1 ∧ (spansAt s 0)[k]? = some x ∧ e = .returned (.tuple #[spanV x, .bool true])) ∨
    ((N < 1 ∨ (spansAt s 0).length < N) ∧ e = .returned (.tuple #[spanV (0, 0), .bool false])))

set_option maxRecDepth 100000 in
set_option maxHeartbeats 2000000 in
theorem nthLine_in (n : Nat) (hn : 6 ≤ n) (s : ByteArray) (hs : s.size ≤ 140737488351232) (N : Int) (w : World) :
    CallsIn Fence.wide n Try.prog 24 #[.string s, .int .i64 N] w (nthPost s N w) := by
  have h1 : 1 ≤ n := by omega
  have hlen := spansAt_length s
  refine callsIn_of_wp_marks Try.func24 rfl trivial ?_ rfl
  simp only [Try.ntmps24, List.size_toArray, List.length_cons, List.length_nil, Nat.reduceAdd, Nat.reduceSub, Array.replicate_succ, Array.replicate_zero, List.push_toArray, List.append_toArray, List.nil_append, List.cons_append]
  gi_wp2_with (refine ⟨trivial, ?_⟩; gi_at_call 26; refine (lineSpans_in (n - 1) _ _).mono ?_; rintro e w' ⟨rfl, rfl⟩)
  have bN := ((((Blk.new w 3 #[.int .i64 N]).alloc (.cells #[.int .i64 0, .int .i64 0] 35)).alloc (.cells #[.bool false] 4)).alloc (.cells #[.int .i64 0] 3)).alloc (.cells #[.string s] 9)
  have bR := (((Blk.new (w.alloc (.cells #[.int .i64 N] 3)) 35 #[.int .i64 0, .int .i64 0]).alloc (.cells #[.bool false] 4)).alloc (.cells #[.int .i64 0] 3)).alloc (.cells #[.string s] 9)
  have bO := ((Blk.new ((w.alloc (.cells #[.int .i64 N] 3)).alloc (.cells #[.int .i64 0, .int .i64 0] 35)) 4 #[.bool false]).alloc (.cells #[.int .i64 0] 3)).alloc (.cells #[.string s] 9)
  have bC := (Blk.new (((w.alloc (.cells #[.int .i64 N] 3)).alloc (.cells #[.int .i64 0, .int .i64 0] 35)).alloc (.cells #[.bool false] 4)) 3 #[.int .i64 0]).alloc (.cells #[.string s] 9)
  have bT := Blk.new ((((w.alloc (.cells #[.int .i64 N] 3)).alloc (.cells #[.int .i64 0, .int .i64 0] 35)).alloc (.cells #[.bool false] 4)).alloc (.cells #[.int .i64 0] 3)) 9 #[.string s]
  simp only [World.size_alloc] at bR bO bC bT
  have hB0 : Below w.heap.size w (((((w.alloc (.cells #[.int .i64 N] 3)).alloc (.cells #[.int .i64 0, .int .i64 0] 35)).alloc (.cells #[.bool false] 4)).alloc (.cells #[.int .i64 0] 3)).alloc (.cells #[.string s] 9)) :=
    (((((Below.refl _ w).alloc (Nat.le_refl _) _).alloc (by simp) _).alloc (by simp; omega) _).alloc (by simp; omega) _).alloc (by simp; omega) _
  have hsz : (((((w.alloc (.cells #[.int .i64 N] 3)).alloc (.cells #[.int .i64 0, .int .i64 0] 35)).alloc (.cells #[.bool false] 4)).alloc (.cells #[.int .i64 0] 3)).alloc (.cells #[.string s] 9)).heap.size = w.heap.size + 5 := by simp
  obtain ⟨W0, hW0⟩ : ∃ W0, (((((w.alloc (.cells #[.int .i64 N] 3)).alloc (.cells #[.int .i64 0, .int .i64 0] 35)).alloc (.cells #[.bool false] 4)).alloc (.cells #[.int .i64 0] 3)).alloc (.cells #[.string s] 9)) = W0 := ⟨_, rfl⟩
  rw [hW0] at bN bR bO bC bT hB0 hsz ⊢
  clear hW0
  refine wpIn_rangeFunc_ownH rfl h1 (gf := 48) (lb := #[.pointer (some ⟨w.heap.size + 1 + 1 + 1 + 1, 0, none⟩)]) rfl trivial (enters_of Try.func48 (by kernel_rfl) rfl)
    (lineSpans_stops (n - 1) (by omega) (w.heap.size + 1 + 1 + 1 + 1) s hs W0 (by omega) (bT.cell 0)) kpT_t kpT_b (Below.refl _ _) (fun _ => rfl)
    (fun pre W => (Blk W w.heap.size 3 #[.int .i64 N] ∧ Blk W (w.heap.size + 1) 35 #[.int .i64 0, .int .i64 0] ∧ Blk W (w.heap.size + 1 + 1) 4 #[.bool false] ∧ Blk W (w.heap.size + 1 + 1 + 1) 3 #[.int .i64 pre.length] ∧ Blk W (w.heap.size + 1 + 1 + 1 + 1) 9 #[.string s] ∧ (N < 1 ∨ (pre.length : Int) < N)) ∧ Below w.heap.size w W ∧ W0.heap.size ≤ W.heap.size)
    (fun c pre W => (c = .ret ∧ ∃ (k : Nat) (x : Nat × Nat), N = k + 1 ∧ pre[k]? = some x ∧ Blk W (w.heap.size + 1) 35 #[.int .i64 x.1, .int .i64 x.2] ∧ Blk W (w.heap.size + 1 + 1) 4 #[.bool true]) ∧ Below w.heap.size w W)
    ?hI ?hIx ?h0
    (fun x a' W => ∃ Bx, W0.heap.size ≤ Bx ∧ Blk W Bx 35 #[.int .i64 x.1, .int .i64 x.2] ∧ a' = { tmps := #[.string s, .int .i64 N, undef, .pointer (some ⟨w.heap.size, 0, none⟩), .pointer (some ⟨w.heap.size + 1, 0, none⟩), .pointer (some ⟨w.heap.size + 1 + 1, 0, none⟩), .pointer (some ⟨w.heap.size + 1 + 1 + 1, 0, none⟩), .pointer (some ⟨Bx, 0, none⟩), .string s, .func (.func 48) #[] #[.pointer (some ⟨w.heap.size + 1 + 1 + 1 + 1, 0, none⟩)], spanV x, undef, undef, undef, undef, undef, undef, undef], defers := [] })
    (fun x a' _ X Y row hs hg hr => by obtain ⟨Bx, h1, h2, h3⟩ := hs; exact ⟨Bx, h1, blk_own Bx 35 (fun (_ : Unit) => #[Value.int .i64 x.1, .int .i64 x.2]) () X Y row h2 hg (fun r e => (hr r e).2), h3⟩)
    ?assign ?body ?done ?stop
  case hI => exact OwnFrom.and (OwnFrom.and (Own.from (blk_own _ _ _) _) (OwnFrom.and (Own.from (blk_own _ _ _) _) (OwnFrom.and (Own.from (blk_own _ _ _) _) (OwnFrom.and (Own.from (blk_own _ _ _) _) (OwnFrom.and (Own.from (blk_own _ _ _) _) (ownFrom_pure _ _)))))) (OwnFrom.and (ownFrom_below (Nat.le_refl _) (by omega)) (fun _ X Y row h hg _ => Nat.le_trans h hg.size))
  case hIx =>
    intro c
    refine OwnFrom.and ?_ (ownFrom_below (Nat.le_refl _) (by omega))
    rintro s X Y row ⟨h1, k, x, h2, h3, h4, h5⟩ hg hr
    exact ⟨h1, k, x, h2, h3, blk_own _ 35 (fun (_ : Unit) => #[Value.int .i64 x.1, .int .i64 x.2]) () X Y row h4 hg (fun r e => (hr r e).2), blk_own _ 4 (fun (_ : Unit) => #[Value.bool true]) () X Y row h5 hg (fun r e => (hr r e).2)⟩
  case h0 => exact ⟨⟨bN, bR, bO, bC, bT, by simp; omega⟩, hB0, Nat.le_refl _⟩
  case assign =>
    rintro l pre x W K ⟨⟨bN1, bR1, bO1, bC1, bT1, hp⟩, hB1, hW1⟩ hK
    dsimp only [spanV] at hK ⊢
    gi_wp2
    exact hK _ _ ((KeepsOthers.alloc _ _).from _) (fun v hv => by rw [show (W.alloc _).cell? ⟨w.heap.size + 1 + 1 + 1 + 1, 0, none⟩ = _ from (Below.refl _ W |>.alloc (Nat.le_refl _) _).cell (p := ⟨w.heap.size + 1 + 1 + 1 + 1, 0, none⟩) bT1.lt]; exact hv)
      ⟨⟨bN1.alloc _, bR1.alloc _, bO1.alloc _, bC1.alloc _, bT1.alloc _, hp⟩, hB1.alloc hB1.size _, by simp; omega⟩ ⟨W.heap.size, hW1, Blk.new W 35 _, rfl⟩
  case body =>
    rintro l pre x a' W hl ⟨r, hr⟩ ⟨⟨bN1, bR1, bO1, bC1, bT1, hp⟩, hB1, hW1⟩ ⟨Bx, hBx, bX, rfl⟩ hlt
    have cN : W.cell? ⟨w.heap.size, 0, none⟩ = some (.int .i64 N) := bN1.cell 0
    have cC : W.cell? ⟨w.heap.size + 1 + 1 + 1, 0, none⟩ = some (.int .i64 pre.length) := bC1.cell 0
    have fC := bC1.frozen 0
    have cX0 : W.cell? ⟨Bx, 0, none⟩ = some (.int .i64 x.1) := bX.cell 0
    have cX1 : W.cell? ⟨Bx, 1, none⟩ = some (.int .i64 x.2) := bX.cell 1
    have cR0 : W.cell? ⟨w.heap.size + 1, 0, none⟩ = some (.int .i64 0) := bR1.cell 0
    have cR1 : W.cell? ⟨w.heap.size + 1, 1, none⟩ = some (.int .i64 0) := bR1.cell 1
    have fR0 := bR1.frozen 0
    have fR1 := bR1.frozen 1
    have cO : W.cell? ⟨w.heap.size + 1 + 1, 0, none⟩ = some (.bool false) := bO1.cell 0
    have fO := bO1.frozen 0
    have hl2 : pre.length < 140737488351234 := by omega
    have hne : w.heap.size + 1 + 1 + 1 < Bx := by omega
    by_cases hN : N = pre.length + 1
    · subst hN
      gi_wp2
      refine ⟨((((KeepsOthers.setCell _ _ _).trans (KeepsOthers.setCell _ _ _)).trans (KeepsOthers.setCell _ _ _)).trans (KeepsOthers.setCell _ _ _)).from _, ⟨rfl, pre.length, x, rfl, by simp, ?_, ?_⟩, ?_⟩
      · exact (((bR1.other (a := ⟨w.heap.size + 1 + 1 + 1, 0, none⟩) (by simp) _).set 0 _).set 1 _).other (a := ⟨w.heap.size + 1 + 1, 0, none⟩) (by simp) _
      · exact (((bO1.other (a := ⟨w.heap.size + 1 + 1 + 1, 0, none⟩) (by simp) _).other (a := ⟨w.heap.size + 1, 0, none⟩) (by simp) _).other (a := ⟨w.heap.size + 1, 1, none⟩) (by simp) _).set 0 _
      · exact (((hB1.setCell (p := ⟨w.heap.size + 1 + 1 + 1, 0, none⟩) (by simp; omega) _).setCell (p := ⟨w.heap.size + 1, 0, none⟩) (by simp) _).setCell (p := ⟨w.heap.size + 1, 1, none⟩) (by simp) _).setCell (p := ⟨w.heap.size + 1 + 1, 0, none⟩) (by simp; omega) _
    · have hN' : ((pre.length : Int) + 1 == N) = false := by simpa using fun h => hN h.symm
      gi_wp2
      refine ⟨(KeepsOthers.setCell _ _ _).from _, fun v hv => ?_, ⟨bN1.other (by simp; omega) _, bR1.other (by simp) _, bO1.other (by simp) _, by simpa using bC1.set 0 (.int .i64 (pre.length + 1)), bT1.other (by simp) _, by simp; omega⟩, hB1.setCell (p := ⟨w.heap.size + 1 + 1 + 1, 0, none⟩) (by simp; omega) _, by simpa using hW1⟩
      exact (Blk.cell (bT1.other (a := ⟨w.heap.size + 1 + 1 + 1, 0, none⟩) (by simp) _) 0).trans ((bT1.cell 0).symm.trans hv)
  case done =>
    rintro D zs W hD rfl ⟨⟨bN1, bR1, bO1, bC1, bT1, hp⟩, hB1, hW1⟩ hK
    have cR0 : W.cell? ⟨w.heap.size + 1, 0, none⟩ = some (.int .i64 0) := bR1.cell 0
    have cR1 : W.cell? ⟨w.heap.size + 1, 1, none⟩ = some (.int .i64 0) := bR1.cell 1
    have fR0 := bR1.frozen 0
    have fR1 := bR1.frozen 1
    have cO : W.cell? ⟨w.heap.size + 1 + 1, 0, none⟩ = some (.bool false) := bO1.cell 0
    have fO := bO1.frozen 0
    gi_wp2
    obtain ⟨W', hW'⟩ : ∃ W', ((W.setCell ⟨w.heap.size + 1, 0, none⟩ (.int .i64 0)).setCell ⟨w.heap.size + 1, 1, none⟩ (.int .i64 0)).setCell ⟨w.heap.size + 1 + 1, 0, none⟩ (.bool false) = W' := ⟨_, rfl⟩
    have kR : Blk W' (w.heap.size + 1) 35 #[.int .i64 0, .int .i64 0] := by
      rw [← hW']; exact ((bR1.set 0 _).set 1 _).other (a := ⟨w.heap.size + 1 + 1, 0, none⟩) (by simp) _
    have kO : Blk W' (w.heap.size + 1 + 1) 4 #[.bool false] := by
      rw [← hW']; exact ((bO1.other (a := ⟨w.heap.size + 1, 0, none⟩) (by simp) _).other (a := ⟨w.heap.size + 1, 1, none⟩) (by simp) _).set 0 _
    have kB : Below w.heap.size w W' := by
      rw [← hW']; exact ((hB1.setCell (p := ⟨w.heap.size + 1, 0, none⟩) (by simp) _).setCell (p := ⟨w.heap.size + 1, 1, none⟩) (by simp) _).setCell (p := ⟨w.heap.size + 1 + 1, 0, none⟩) (by simp; omega) _
    have kK : W'.heap[D]? = some (.deferred (some [])) := by
      rw [← hW']; exact (((KeepsOthers.setCell _ _ _).trans (KeepsOthers.setCell _ _ _)).trans (KeepsOthers.setCell _ _ _)).same D _ hK rfl
    rw [hW']
    clear hW'
    refine ⟨by simp, .inl ⟨_, _, rfl, run_takeDeferred kK, ?_⟩⟩
    have kR2 := kR.kept (grownBy_putObj' W' D (.deferred none)) (fun e => by cases e; rw [show W'.heap[w.heap.size + 1]? = _ from kR] at kK; cases kK)
    have kO2 := kO.kept (grownBy_putObj' W' D (.deferred none)) (fun e => by cases e; rw [show W'.heap[w.heap.size + 1 + 1]? = _ from kO] at kK; cases kK)
    have c0 := kR2.cell 0
    have c1 := kR2.cell 1
    have c2 := kO2.cell 0
    refine ⟨.tuple #[spanV (0, 0), .bool false], ?_, kB.trans (belowK_b (w := w) (Nat.le_refl _) W' D _ _ (by omega) kK rfl rfl), .inr ⟨by omega, rfl⟩⟩
    simp [results, Try.f24, go_sem, c0, c1, c2, spanV]
  case stop =>
    rintro D c pre W hD hpre ⟨⟨rfl, k, x, hN, hx, bR1, bO1⟩, hB1⟩ hK
    gi_wp2
    refine ⟨by simp, .inl ⟨_, _, rfl, run_takeDeferred hK, ?_⟩⟩
    have kR2 := bR1.kept (grownBy_putObj' W D (.deferred none)) (fun e => by cases e; rw [show W.heap[w.heap.size + 1]? = _ from bR1] at hK; cases hK)
    have kO2 := bO1.kept (grownBy_putObj' W D (.deferred none)) (fun e => by cases e; rw [show W.heap[w.heap.size + 1 + 1]? = _ from bO1] at hK; cases hK)
    have c0 := kR2.cell 0
    have c1 := kR2.cell 1
    have c2 := kO2.cell 0
    refine ⟨.tuple #[spanV x, .bool true], ?_, hB1.trans (belowK_b (w := w) (Nat.le_refl _) W D _ _ (by omega) hK rfl rfl), .inl ⟨k, x, hN, ?_, rfl⟩⟩
    · simp [results, Try.f24, go_sem, c0, c1, c2, spanV]
    · obtain ⟨t, ht⟩ := hpre
      rw [← ht, List.getElem?_append_left (by have := (List.getElem?_eq_some_iff.1 hx).1; exact this)]
      exact hx

theorem nthLine_any (s : ByteArray) (hs : s.size ≤ 140737488351232) (N : Int) (w : World) : Calls Try.prog 24 #[.string s, .int .i64 N] w (nthPost s N w) :=
  callsIn_wide.1 (nthLine_in 6 (Nat.le_refl _) s hs N w)

end Go.Proofs.Ytmlkeddiagmedaa
