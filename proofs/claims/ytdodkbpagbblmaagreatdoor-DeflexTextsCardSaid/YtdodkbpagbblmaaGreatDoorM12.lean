import Derived.Shelf.RegionOpen
import Derived.BigQuiet
import Derived.Deep.QuietTactic
import Derived.Test.YtdodkbpagbblmaaGreatDoorM3
import Derived.Test.YtdodkbpagbblmaaGreatDoorM8
import Derived.Test.YtdodkbpagbblmaaGreatDoorM10
import Derived.Test.YtdodkbpagbblmaaGreatDoorM11
section
namespace Go.Proofs.YtdodkbpagbblmaaGreatDoor
open Go Go.RowKit Go.Shelf

attribute [local go_sem] Oper.semAt_some

theorem enumF_get (a : List (Wd × Nat)) : ∀ (k j : Nat), (enumF k a)[j]? = (a[j]?).map fun p => (k + j, p) := by
  induction a with
  | nil => intro k j; rfl
  | cons p r ih =>
    intro k j
    cases j with
    | zero => rfl
    | succ j =>
      show (enumF (k + 1) r)[j]? = (r[j]?).map _
      rw [ih (k + 1) j, show k + 1 + j = k + (j + 1) by omega]
theorem enumF_pre (ws : List (Wd × Nat)) (pre : List (Nat × (Wd × Nat))) (x : Nat × (Wd × Nat)) (h : pre ++ [x] <+: enumF 0 ws) : x.1 = pre.length ∧ ws[pre.length]? = some x.2 := by
  obtain ⟨r, hr⟩ := h
  have h1 : (enumF 0 ws)[pre.length]? = some x := by rw [← hr]; simp
  rw [enumF_get] at h1
  cases hw : ws[pre.length]? with
  | none => rw [hw] at h1; cases h1
  | some p =>
    rw [hw] at h1
    cases h1
    exact ⟨by simp, rfl⟩
theorem eql_func (a : Value) (w : World) : (binOp .eql 37 (.func (.func 25) #[] #[a]) .nilFunc).run Tryz.prog w = .ok (.bool false) w := by kernel_rfl

/-- What goes' own blocks hold. -/
structure GoesI (W w : World) (v : Value) (leave : Int) (r : Bool) (n : Nat) : Prop where
  b0 : Blk W w.heap.size 23 #[v]
  b1 : Blk W (w.heap.size + 1) 3 #[.int .i64 leave]
  b2 : Blk W (w.heap.size + 1 + 1) 4 #[.bool r]
  b3 : Blk W (w.heap.size + 1 + 1 + 1) 3 #[.int .i64 (n : Int)]
  b : Below w.heap.size w W
theorem GoesI.low {W W' w : World} {v : Value} {leave : Int} {r : Bool} {n : Nat} (h : GoesI W w v leave r n) (hB : Below (w.heap.size + 4) W W') : GoesI W' w v leave r n :=
  ⟨h.b0.below hB (by omega), h.b1.below hB (by omega), h.b2.below hB (by omega), h.b3.below hB (by omega), h.b.trans (hB.mono (by omega))⟩

theorem withI_at (ws : List (Wd × Nat)) (i : Nat) (p : Wd × Nat) (h : ws[i]? = some p) : (withI ws)[i]? = some (p.1, (p.2 : Int)) := by
  simp [withI, h]
theorem putB {n D : Nat} {w W : World} {o : Obj} (h : Below n w W) (hD : n ≤ D) : Below n w (W.putObj D o) :=
  ⟨h.os, h.tape, h.output, Nat.le_trans h.size (grownBy_putObj' _ _ _).size, fun k hk => (World.putObj_heap_other (by omega)).trans (h.block k hk)⟩
theorem KeepUp.set {B b i : Nat} {X : World} (hb : b < B) (h5 : 5 ≤ b) (v : Value) : KeepUp B X (X.setCell ⟨b, i, none⟩ v) :=
  ⟨by rw [World.size_setCell]; exact Nat.le_refl _, fun k o hk ho => (Below.heap_setCell X ⟨b, i, none⟩ v k (by show k ≠ b; omega)).trans ho, fun k hk => Below.heap_setCell X ⟨b, i, none⟩ v k (by show k ≠ b; omega)⟩
theorem KeepUp.drew {B : Nat} {X Y : World} (h : KeepUp B X Y) : KeepUp B X Y.drew := ⟨h.size, h.up, h.low⟩

theorem KeepUp.setR {B b i : Nat} {X Y : World} (h : KeepUp B X Y) (hb : b < B) (h5 : 5 ≤ b) (v : Value) : KeepUp B X (Y.setCell ⟨b, i, none⟩ v) := h.trans (KeepUp.set hb h5 v)
theorem GoesI.drew {W w : World} {v : Value} {leave : Int} {r : Bool} {n : Nat} (h : GoesI W w v leave r n) : GoesI W.drew w v leave r n := ⟨h.b0, h.b1, h.b2, h.b3, h.b.drew⟩
theorem GoesI.setN {W w : World} {v : Value} {leave : Int} {r : Bool} {n : Nat} (h : GoesI W w v leave r n) : GoesI (W.setCell ⟨w.heap.size + 1 + 1 + 1, 0, none⟩ (.int .i64 ((n : Int) + 1))) w v leave r (n + 1) :=
  ⟨h.b0.other (by show w.heap.size ≠ w.heap.size + 1 + 1 + 1; omega) _, h.b1.other (by show w.heap.size + 1 ≠ w.heap.size + 1 + 1 + 1; omega) _, h.b2.other (by show w.heap.size + 1 + 1 ≠ w.heap.size + 1 + 1 + 1; omega) _, h.b3.set 0 _, h.b.setCell (p := ⟨w.heap.size + 1 + 1 + 1, 0, none⟩) (by show w.heap.size ≤ w.heap.size + 1 + 1 + 1; omega) _⟩
theorem GoesI.setT {W w : World} {v : Value} {leave : Int} {r : Bool} {n : Nat} (h : GoesI W w v leave r n) : GoesI (W.setCell ⟨w.heap.size + 1 + 1, 0, none⟩ (.bool true)) w v leave true n :=
  ⟨h.b0.other (by show w.heap.size ≠ w.heap.size + 1 + 1; omega) _, h.b1.other (by show w.heap.size + 1 ≠ w.heap.size + 1 + 1; omega) _, h.b2.set 0 _, h.b3.other (by show w.heap.size + 1 + 1 + 1 ≠ w.heap.size + 1 + 1; omega) _, h.b.setCell (p := ⟨w.heap.size + 1 + 1, 0, none⟩) (by show w.heap.size ≤ w.heap.size + 1 + 1; omega) _⟩

set_option maxRecDepth 100000 in
set_option maxHeartbeats 8000000 in
/-- Going over a text tells the words that were told. -/
theorem goes_in (n : Nat) (hn : 6 ≤ n) (Bn : Nat) (t : ByteArray) (ht : t.size ≤ 5000) (ws : List (Wd × Nat)) (hws : ws = (lexAt t.data.toList 0).1) (a : Option Addr) (cap : Nat) (N : Nat) (hN : ws.length = N) (hN1 : N ≤ 5000) (leave : Int) (w : World) (hG : GlobD w) (hBn : Blk w Bn 9 #[.string t]) (hrow : RowW w a (withI ws)) :
    CallsIn Fence.wide n Tryz.prog 12 #[.func (.func 25) #[] #[.pointer (some ⟨Bn, 0, none⟩)], .slice a N cap, .int .i64 leave] w fun e w' => e = .returned (.bool true) ∧ Below w.heap.size w w' := by
  have h1 : 1 ≤ n := by omega
  have hE := eql_func
  have hbig := hG.big
  refine callsIn_of_wp_marks Tryz.func12 rfl trivial ?_ rfl
  simp only [Tryz.ntmps12, List.size_toArray, List.length_cons, List.length_nil, Nat.reduceAdd, Nat.reduceSub, Array.replicate_succ, Array.replicate_zero, List.push_toArray, List.append_toArray, List.nil_append, List.cons_append]
  gi_wp2
  obtain ⟨W0, hW0⟩ : ∃ W0, W0 = (((w.alloc (.cells #[.slice a N cap] 23)).alloc (.cells #[.int .i64 leave] 3)).alloc (.cells #[.bool false] 4)).alloc (.cells #[.int .i64 0] 3) := ⟨_, rfl⟩
  have hs0 : W0.heap.size = w.heap.size + 4 := by rw [hW0]; simp
  have hB0 : Below w.heap.size w W0 := by rw [hW0]; exact ((((Below.refl _ w).alloc (Nat.le_refl _) _).alloc (by simp) _).alloc (by simp; omega) _).alloc (by simp; omega) _
  have hI0 : GoesI W0 w (.slice a N cap) leave false 0 := by
    have k1 := Blk.new (w.alloc (.cells #[.slice a N cap] 23)) 3 #[.int .i64 leave]
    have k2 := Blk.new ((w.alloc (.cells #[.slice a N cap] 23)).alloc (.cells #[.int .i64 leave] 3)) 4 #[.bool false]
    have k3 := Blk.new (((w.alloc (.cells #[.slice a N cap] 23)).alloc (.cells #[.int .i64 leave] 3)).alloc (.cells #[.bool false] 4)) 3 #[.int .i64 0]
    simp only [World.size_alloc] at k1 k2 k3
    rw [hW0]
    exact ⟨(((Blk.new w 23 _).alloc _).alloc _).alloc _, (k1.alloc _).alloc _, k2.alloc _, k3, by rw [← hW0]; exact hB0⟩
  rw [← hW0]
  clear hW0
  refine rangeFunc_low h1 (by omega) (gf := 25) (lb := #[.pointer (some ⟨Bn, 0, none⟩)]) rfl (enters_of Tryz.func25 (by kernel_rfl) rfl)
    (all1_low (n - 1) (by omega) Bn t ht W0 (hBn.below hB0 hBn.lt) (hG.below (Nat.le_refl _) hB0)) (fun _ => rfl)
    (fun pre W => GoesI W w (.slice a N cap) leave false pre.length)
    (fun c _ W => c = .ret ∧ ∃ m, GoesI W w (.slice a N cap) leave true m)
    (fun s A B h hB => h.low (by rw [← hs0]; exact hB)) (fun c s A B h hB => ⟨h.1, h.2.imp fun m hm => hm.low (by rw [← hs0]; exact hB)⟩) hI0 ?round ?done ?stop
  case round =>
    intro l pre x W hpre hI hsz
    obtain ⟨hx1, hx2⟩ := enumF_pre ws pre x (by rw [hws]; exact hpre)
    obtain ⟨i, y, k⟩ := x
    dsimp only at hx1 hx2
    subst hx1
    have hlt : pre.length < N := by rw [← hN]; exact (List.getElem?_eq_some_iff.1 hx2).1
    obtain ⟨g, off, rfl, hWd⟩ := hrow pre.length (y, (k : Int)) (withI_at _ _ _ hx2)
    have HWd := Lib.hid hWd
    have HI := Lib.hid hI
    have hlen : (pre ++ [(pre.length, y, k)]).length = pre.length + 1 := by simp
    have HLn := Lib.hid hlen
    obtain ⟨q, hq⟩ : ∃ q, q = pre.length := ⟨_, rfl⟩
    rw [← hq] at HI HWd hlt HLn ⊢
    simp only [encW, wordV, wordC]
    clear hI hWd hpre hx2 hlen hq hrow hws hI0 hG hBn hB0
    gi_wp2
    refine ⟨KeepUp.of_below ((Below.refl _ W).alloc (Nat.le_refl _) _) (Nat.le_refl _) (by omega), ?_⟩
    rintro W2 ⟨o, rfl⟩ -
    obtain ⟨W2, hW2⟩ : ∃ W2, W2 = (W.alloc (.cells #[.int .i64 y.kind, .int .i64 (k : Int), .string y.txt, .int .u64 (wdI y.set 0), .int .u64 (wdI y.set 1), .int .u64 (wdI y.set 2), .int .u64 (wdI y.set 3), .int .i64 y.num] 35)).putObj (W0.heap.size + 1) o := ⟨_, rfl⟩
    have hT : Blk W2 W.heap.size 35 #[.int .i64 y.kind, .int .i64 (k : Int), .string y.txt, .int .u64 (wdI y.set 0), .int .u64 (wdI y.set 1), .int .u64 (wdI y.set 2), .int .u64 (wdI y.set 3), .int .i64 y.num] := by
      rw [hW2]; exact (World.putObj_heap_other (by omega)).trans (Blk.new W 35 _)
    have hI2 : GoesI W2 w (.slice (some ⟨g, off, none⟩) N cap) leave false q := HI.out.low (by
      rw [hW2]; exact putB (((Below.refl _ W).alloc (by omega) _)) (by omega))
    rw [← hW2]
    clear hW2 HI
    have hWd := HWd.out.below hI2.b HWd.out.lt
    have bg := hWd.lt
    have bT := hT.lt
    obtain ⟨d0, d1, d2, d3, d4, d5, d6, d7⟩ := hWd
    dsimp only at d0 d1 d2 d3 d4 d5 d6 d7
    have t0 := hT.cell 0
    have t1 := hT.cell 1
    have t2 := hT.cell 2
    have t3 := hT.cell 3
    have t4 := hT.cell 4
    have t5 := hT.cell 5
    have t6 := hT.cell 6
    have t7 := hT.cell 7
    simp only [List.getElem?_toArray, List.getElem?_cons_zero, List.getElem?_cons_succ] at t0 t1 t2 t3 t4 t5 t6 t7
    have c0 : W2.cell? ⟨w.heap.size, 0, none⟩ = some (.slice (some ⟨g, off, none⟩) N cap) := hI2.b0.cell 0
    have c1 : W2.cell? ⟨w.heap.size + 1, 0, none⟩ = some (.int .i64 leave) := hI2.b1.cell 0
    have c2 : W2.cell? ⟨w.heap.size + 1 + 1, 0, none⟩ = some (.bool false) := hI2.b2.cell 0
    have c3 : W2.cell? ⟨w.heap.size + 1 + 1 + 1, 0, none⟩ = some (.int .i64 (q : Int)) := hI2.b3.cell 0
    have f2 := hI2.b2.frozen 0
    have f3 := hI2.b3.frozen 0
    have l2 := hI2.b2.lt
    have l3 := hI2.b3.lt
    have HE := fun w' => eq_selfA y (k : Int) (k : Int) rfl w'
    unfold wordC at HE
    have m1 : ¬ (N : Int) ≤ (q : Int) := by omega
    have m2 : ((q : Int) != (q : Int)) = false := by simp
    have m3 : (q : Int) < (N : Int) := by omega
    have m4 : decide (N ≤ q) = false := by rw [decide_eq_false_iff_not]; omega
    have g2 : w.heap.size + 1 + 1 < W0.heap.size := by omega
    have g3 : w.heap.size + 1 + 1 + 1 < W0.heap.size := by omega
    have g5 : 5 ≤ w.heap.size + 1 + 1 := by omega
    have g6 : 5 ≤ w.heap.size + 1 + 1 + 1 := by omega
    have HI2 := Lib.hid hI2
    clear hI2 hT HWd
    have hmix : Tryz.prog.follows .mixedOrders = true := by kernel_rfl
    gi_wp2
    gi_region_with_o (fail)
    all_goals gi_wp2
    all_goals first
      | (refine ⟨?_, rfl, q + 1, ?_⟩
         · repeat (first | with_reducible exact KeepUp.refl _ _ | with_reducible refine KeepUp.drew ?_ | with_reducible refine KeepUp.setR ?_ g3 g6 _ | with_reducible refine KeepUp.setR ?_ g2 g5 _)
         · repeat (first | with_reducible exact HI2.out | with_reducible refine GoesI.drew ?_ | with_reducible refine GoesI.setT (r := false) ?_ | with_reducible refine GoesI.setN ?_))
      | (refine ⟨?_, ?_⟩
         · repeat (first | with_reducible exact KeepUp.refl _ _ | with_reducible refine KeepUp.drew ?_ | with_reducible refine KeepUp.setR ?_ g3 g6 _)
         · show GoesI _ _ _ _ _ (pre ++ [(q, y, k)]).length
           rw [HLn.out]
           repeat (first | with_reducible exact HI2.out | with_reducible refine GoesI.drew ?_ | with_reducible refine GoesI.setN ?_))
  case done =>
    intro D W hD hI hK
    rw [enumF_length, ← hws, hN] at hI
    have c0 : W.cell? ⟨w.heap.size, 0, none⟩ = some (.slice a N cap) := hI.b0.cell 0
    have c3 : W.cell? ⟨w.heap.size + 1 + 1 + 1, 0, none⟩ = some (.int .i64 (N : Int)) := hI.b3.cell 0
    have c2 : W.cell? ⟨w.heap.size + 1 + 1, 0, none⟩ = some (.bool false) := hI.b2.cell 0
    have f2 := hI.b2.frozen 0
    have l2 := hI.b2.lt
    have Hb2 := Lib.hid (hI.b2.set 0 (.bool true))
    have HB := Lib.hid (hI.b.setCell (p := ⟨w.heap.size + 1 + 1, 0, none⟩) (by show w.heap.size ≤ w.heap.size + 1 + 1; omega) (.bool true))
    have e2 : ¬ D = w.heap.size + 1 + 1 := by omega
    have HK := Lib.hid hK
    have hK2 : Hid ((W.setCell ⟨w.heap.size + 1 + 1, 0, none⟩ (.bool true)).heap[D]? = some (.deferred (some []))) := Lib.hid ((Below.heap_setCell W _ _ D e2).trans HK.out)
    clear hI hrow hws
    gi_wp2
    refine ⟨by simp, .inl ⟨_, _, rfl, run_takeDeferred hK2.out, ?_⟩⟩
    have hc := (show Blk ((W.setCell ⟨w.heap.size + 1 + 1, 0, none⟩ (.bool true)).putObj D (.deferred none)) (w.heap.size + 1 + 1) 4 #[.bool true] from (World.putObj_heap_other (by omega)).trans Hb2.out).cell 0
    exact ⟨.bool true, by simp [results, Tryz.results12, go_sem, hc], rfl, putB HB.out (by omega)⟩
  case stop =>
    rintro D c pre W hD hpre ⟨rfl, m, hI⟩ hK
    have Hb2 := Lib.hid hI.b2
    have HB := Lib.hid hI.b
    have HK := Lib.hid hK
    clear hI hrow hws
    gi_wp2
    refine ⟨by simp, .inl ⟨_, _, rfl, run_takeDeferred HK.out, ?_⟩⟩
    have hc := (show Blk (W.putObj D (.deferred none)) (w.heap.size + 1 + 1) 4 #[.bool true] from (World.putObj_heap_other (by omega)).trans Hb2.out).cell 0
    exact ⟨.bool true, by simp [results, Tryz.results12, go_sem, hc], rfl, putB HB.out (by omega)⟩
end Go.Proofs.YtdodkbpagbblmaaGreatDoor
end
section
namespace Go.Proofs.YtdodkbpagbblmaaGreatDoor
open Go Go.RowKit

theorem lexAt_bounds : ∀ (n : Nat) (l : List UInt8), l.length ≤ n → ∀ k, (lexAt l k).1.length ≤ l.length ∧ (∀ p ∈ (lexAt l k).1, p.2 ≤ k + l.length) ∧ ∀ q, (lexAt l k).2 = some q → q ≤ k + l.length := by
  intro n
  induction n with
  | zero =>
    intro l h k
    have : l = [] := List.length_eq_zero_iff.1 (by omega)
    subst this
    rw [lexAt_end [] _ rfl]
    simp
  | succ n ih =>
    intro l h k
    have hle := skipL_le l
    by_cases he : l.drop (skipL l) = []
    · rw [lexAt_end l _ he]; simp
    · cases hn : nextW (l.drop (skipL l)) with
      | none =>
        rw [lexAt_bad l _ he hn]
        simp
        omega
      | some p =>
        have hp := nextW_len _ p hn
        have hl2 : ((l.drop (skipL l)).drop p.2).length + p.2 + skipL l = l.length := by
          rw [List.length_drop] at hp ⊢
          rw [List.length_drop]
          omega
        obtain ⟨i1, i2, i3⟩ := ih ((l.drop (skipL l)).drop p.2) (by omega) (k + skipL l + p.2)
        rw [lexAt_step l _ p he hn]
        refine ⟨by simp only [List.length_cons]; omega, ?_, fun q hq => ?_⟩
        · intro x hx
          rcases List.mem_cons.1 hx with rfl | hx
          · simp only; omega
          · have := i2 x hx; omega
        · have := i3 q hq; omega

theorem own_rowWn {w : World} {n₀ n : Nat} {v : Value} {ws : List (Wd × Nat)} (h : w.ownsRow n₀ 35 8 v ws.length (cellsW ws)) (hn : ws.length = n) : ∃ a cap, v = .slice a n cap ∧ RowW w a (withI ws) := by
  subst hn
  exact own_rowW h

theorem goes_any (Bn : Nat) (t : ByteArray) (ht : t.size ≤ 5000) (ws : List (Wd × Nat)) (hws : ws = (lexAt t.data.toList 0).1) (a : Option Addr) (cap : Nat) (N : Nat) (hN : ws.length = N) (hN1 : N ≤ 5000) (leave : Int) (w : World) (hG : GlobD w) (hBn : Blk w Bn 9 #[.string t]) (hrow : RowW w a (withI ws)) :
    Calls Tryz.prog 12 #[.func (.func 25) #[] #[.pointer (some ⟨Bn, 0, none⟩)], .slice a N cap, .int .i64 leave] w fun e w' => e = .returned (.bool true) ∧ Below w.heap.size w w' :=
  callsIn_wide.1 (goes_in 6 (Nat.le_refl _) Bn t ht ws hws a cap N hN hN1 leave w hG hBn hrow)

/-- Some, with the row's form. -/
theorem some_of (s : ByteArray) (hs : s.size ≤ 5000) (ws : List (Wd × Nat)) (hws : ws = (lexAt s.data.toList 0).1) (N : Nat) (hN : ws.length = N) (w : World) :
    Calls Tryz.prog 10 #[.string s] w fun e w' => ∃ a cap x y, e = .returned (.tuple #[.slice a N cap, .int .i64 x, .int .i64 y]) ∧ RowW w' a (withI ws) ∧ Below w.heap.size w w' := by
  refine (some_any s hs w).mono ?_
  rintro e w' ⟨hB, v, rfl, ho⟩
  rw [← hws] at ho
  obtain ⟨a, cap, rfl, hr⟩ := own_rowWn ho hN
  exact ⟨a, cap, _, _, rfl, hr, hB⟩

set_option maxRecDepth 100000 in
set_option maxHeartbeats 16000000 in
/-- DeflexTexts' law. -/
theorem lawTexts3 (s : ByteArray) (leave : Int) (w : World) (hG : GlobD w) :
    Calls Tryz.prog 3 #[.string s, .int .i64 leave] w fun e w' => e = .returned (.bool true) ∧ Below w.heap.size w w' := by
  by_cases hbig : 5000 < s.size
  · have d1 : (5000 : Int) < s.size := by omega
    have HW := Lib.hid (works_any w hG)
    clear hG
    go_enter Tryz.func3, Tryz.ntmps3
    go_wp2_with fail
    refine HW.out.mono ?_
    rintro e w1 ⟨rfl, hB⟩
    have HB := Lib.hid hB
    clear hB HW
    go_wp2
    go_ret
    exact ⟨rfl, HB.out⟩
  have hs : s.size ≤ 5000 := by omega
  have d1 : ¬ (5000 : Int) < s.size := by omega
  obtain ⟨ws, hws⟩ : ∃ ws, ws = (lexAt s.data.toList 0).1 := ⟨_, rfl⟩
  obtain ⟨N, hN⟩ : ∃ N, ws.length = N := ⟨_, rfl⟩
  have hb := lexAt_bounds _ s.data.toList (Nat.le_refl _) 0
  rw [← hws, ← Lib.size_eq, hN] at hb
  have hN1 : N ≤ 5000 := by omega
  have HSo := Lib.hid (fun W => some_of s hs ws hws N hN W)
  have HAl := Lib.hid (fun W => all_any s W)
  have HGo := Lib.hid (fun Bn a cap lv W hG hBn hr => goes_any Bn s hs ws hws a cap N hN hN1 lv W hG hBn hr)
  have HW := Lib.hid (fun W hW => works_any W hW)
  have HNm := Lib.hid (fun k W => num_any k W)
  have HG := Lib.hid hG
  cases ho : (lexAt s.data.toList 0).2 with
  | some p =>
    have H1 := Lib.hid (fun W hW => lex_bad s p ho (by omega) W hW)
    have H2 : Hid (∀ W, Calls Tryz.prog 8 #[.string s] W fun e w' => e = .returned (.tuple #[.slice none 0 0, .int .i64 p, .int .i64 130]) ∧ Below W.heap.size W w') := Lib.hid (fun W => (rlex_any s hs W).mono (by
      rintro e w' ⟨hB, ⟨a, ha, rfl⟩ | ⟨hn, _⟩⟩
      · rw [ho] at ha; cases ha; exact ⟨rfl, hB⟩
      · rw [ho] at hn; cases hn))
    clear hb hbig hs ho hws hG
    go_enter Tryz.func3, Tryz.ntmps3
    go_wp2_with fail
    refine (H1.out _ HG.out).mono ?_
    rintro e w1 ⟨rfl, hB1⟩
    have HB1 := Lib.hid hB1
    have HG1 := Lib.hid (HG.out.below (Nat.le_refl _) hB1)
    clear hB1 H1
    go_wp2_with fail
    refine (H2.out _).mono ?_
    rintro e w2 ⟨rfl, hB2⟩
    have HG2 := Lib.hid (HG1.out.below (Nat.le_refl _) hB2)
    have HB2 := Lib.hid (HB1.out.trans (hB2.mono HB1.out.size))
    clear hB2 H2 HB1 HG1
    go_wp2_with (go_at_call 9; (with_reducible refine (HNm.out _ _).mono ?_); rintro e w' ⟨rfl, rfl⟩)
    go_loopw [11] (fun i wr => i = .int .i64 0 ∧ wr = w2)
      (fun _ _ => 0)
    case atStart => exact ⟨rfl, rfl⟩
    case round =>
      obtain ⟨rfl, rfl⟩ := hrel
      go_wp2_with fail
      refine (HSo.out _).mono ?_
      rintro e w3 ⟨a3, c3, x3, y3, rfl, hr3, hB3⟩
      have HG3 := Lib.hid (HG2.out.below (Nat.le_refl _) hB3)
      have HB3 := Lib.hid (HB2.out.trans (hB3.mono HB2.out.size))
      have HR3 := Lib.hid hr3
      clear hB3 hr3 HG2 HB2 HSo
      go_wp2_with fail
      refine (HAl.out _).mono ?_
      rintro e w4 ⟨rfl, hw4⟩
      have hA4 : Below w3.heap.size w3 w4 := by rw [hw4]; exact (Below.refl _ w3).alloc (Nat.le_refl _) _
      have HBk : Hid (Blk w4 w3.heap.size 9 #[.string s]) := Lib.hid (by rw [hw4]; exact Blk.new w3 9 _)
      have HG4 := Lib.hid (HG3.out.below (Nat.le_refl _) hA4)
      have HB4 := Lib.hid (HB3.out.trans (hA4.mono HB3.out.size))
      have HR4 := Lib.hid (HR3.out.below hA4)
      clear hw4 hA4 HG3 HB3 HR3 HAl
      go_wp2_with fail
      refine (HGo.out _ _ _ _ _ HG4.out HBk.out HR4.out).mono ?_
      rintro e w5 ⟨rfl, hB5⟩
      have HG5 := Lib.hid (HG4.out.below (Nat.le_refl _) hB5)
      have HB5 := Lib.hid (HB4.out.trans (hB5.mono HB4.out.size))
      have HR5 := Lib.hid (HR4.out.below hB5)
      have HBk5 := Lib.hid (HBk.out.below hB5 HBk.out.lt)
      clear hB5 HG4 HB4 HR4 HBk
      go_wp2_with fail
      refine (HGo.out _ _ _ _ _ HG5.out HBk5.out HR5.out).mono ?_
      rintro e w6 ⟨rfl, hB6⟩
      have HG6 := Lib.hid (HG5.out.below (Nat.le_refl _) hB6)
      have HB6 := Lib.hid (HB5.out.trans (hB6.mono HB5.out.size))
      clear hB6 HG5 HB5 HR5 HBk5
      go_wp2_with fail
      refine (HW.out _ HG6.out).mono ?_
      rintro e w7 ⟨rfl, hB7⟩
      have HB7 := Lib.hid (HB6.out.trans (hB7.mono HB6.out.size))
      clear hB7
      go_wp2
      go_ret
      exact ⟨rfl, HB7.out⟩
  | none =>
    have H1 := Lib.hid (fun W hW => lex_ok s ws (by rw [hws, ← ho]) (by omega) W hW)
    have H2 : Hid (∀ W, Calls Tryz.prog 8 #[.string s] W fun e w' => ∃ a cap, e = .returned (.tuple #[.slice a N cap, .int .i64 0, .int .i64 0]) ∧ RowW w' a (withI ws) ∧ Below W.heap.size W w') := Lib.hid (fun W => (rlex_any s hs W).mono (by
      rintro e w' ⟨hB, ⟨a, ha, _⟩ | ⟨_, v, rfl, hown⟩⟩
      · rw [ho] at ha; cases ha
      · rw [← hws] at hown
        obtain ⟨a, cap, rfl, hr⟩ := own_rowWn hown hN
        exact ⟨a, cap, rfl, hr, hB⟩))
    have HN := Lib.hid hN
    have Hp2 : Hid (∀ x ∈ ws, x.2 ≤ 5000) := Lib.hid (fun x hx => by have := hb.2.1 x hx; omega)
    clear hb hbig hs ho hws hG hN
    go_enter Tryz.func3, Tryz.ntmps3
    go_wp2_with fail
    refine (H1.out _ HG.out).mono ?_
    rintro e w1 ⟨v1, rfl, ho1, hB1⟩
    obtain ⟨a1, c1, rfl, hr1⟩ := own_rowWn ho1 HN.out
    have HR1 := Lib.hid hr1
    have HB1 := Lib.hid hB1
    have HG1 := Lib.hid (HG.out.below (Nat.le_refl _) hB1)
    clear hB1 H1 ho1 hr1
    go_wp2_with fail
    refine (H2.out _).mono ?_
    rintro e w2 ⟨a2, c2, rfl, hr2, hB2⟩
    have HR1 := Lib.hid (HR1.out.below hB2)
    have HR2 := Lib.hid hr2
    have HG2 := Lib.hid (HG1.out.below (Nat.le_refl _) hB2)
    have HB2 := Lib.hid (HB1.out.trans (hB2.mono HB1.out.size))
    clear hB2 H2 HB1 HG1 hr2
    go_wp2_with (go_at_call 9; (with_reducible refine (HNm.out _ _).mono ?_); rintro e w' ⟨rfl, rfl⟩)
    go_loopw [11] (fun i wr => ∃ m : Nat, i = .int .i64 m ∧ m ≤ N ∧ Below w2.heap.size w2 wr)
      (fun i _ => N - (intOf i).toNat)
    case atStart => exact ⟨0, rfl, Nat.zero_le _, Below.refl _ _⟩
    case round =>
      obtain ⟨m, rfl, hm, hB⟩ := hrel
      have hszr := hB.size
      by_cases hlt : m < N
      · have n4 : (m : Int) < (N : Int) := by omega
        have HX : Hid (ws[m]? = some (ws[m]'(by rw [HN.out]; exact hlt))) := Lib.hid (List.getElem?_eq_getElem _)
        obtain ⟨x, hx⟩ : ∃ x, ws[m]'(by rw [HN.out]; exact hlt) = x := ⟨_, rfl⟩
        rw [hx] at HX
        clear hx
        obtain ⟨x, ax⟩ := x
        obtain ⟨g, off, rfl, hW⟩ := HR1.out m _ (withI_at _ _ _ HX.out)
        obtain ⟨g3, of3, rfl, hV⟩ := HR2.out m _ (withI_at _ _ _ HX.out)
        have hW := hW.below hB hW.lt
        have hV := hV.below hB hV.lt
        have bg := hW.lt
        have bh := hV.lt
        obtain ⟨e0, e1, e2, e3, e4, e5, e6, e7⟩ := hW
        obtain ⟨f0, f1, f2, f3, f4, f5, f6, f7⟩ := hV
        dsimp only at e0 e1 e2 e3 e4 e5 e6 e7 f0 f1 f2 f3 f4 f5 f6 f7
        have HE := fun w' => eq_selfA x (ax : Int) (ax : Int) rfl w'
        unfold wordC at HE
        have HB := Lib.hid hB
        clear HX hB
        go_wp2
        go_quiet (fail)
        go_wp2
        go_roundw
        case rel => exact ⟨m + 1, by go_num, by omega, HB.out.trans ⟨rfl, rfl, rfl, Nat.le_refl _, fun _ _ => rfl⟩⟩
        case measure => simp [intOf]; omega
      · have n4 : ¬ (m : Int) < (N : Int) := by omega
        have HG2 := Lib.hid (HG2.out.below (Nat.le_refl _) hB)
        have HB2 := Lib.hid (HB2.out.trans (hB.mono HB2.out.size))
        clear hB hszr
        go_wp2_with fail
        refine (HSo.out _).mono ?_
        rintro e w3 ⟨a3, c3, x3, y3, rfl, hr3, hB3⟩
        have HG3 := Lib.hid (HG2.out.below (Nat.le_refl _) hB3)
        have HB3 := Lib.hid (HB2.out.trans (hB3.mono HB2.out.size))
        have HR3 := Lib.hid hr3
        clear hB3 hr3 HG2 HB2 HSo
        go_wp2_with fail
        refine (HAl.out _).mono ?_
        rintro e w4 ⟨rfl, hw4⟩
        have hA4 : Below w3.heap.size w3 w4 := by rw [hw4]; exact (Below.refl _ w3).alloc (Nat.le_refl _) _
        have HBk : Hid (Blk w4 w3.heap.size 9 #[.string s]) := Lib.hid (by rw [hw4]; exact Blk.new w3 9 _)
        have HG4 := Lib.hid (HG3.out.below (Nat.le_refl _) hA4)
        have HB4 := Lib.hid (HB3.out.trans (hA4.mono HB3.out.size))
        have HR4 := Lib.hid (HR3.out.below hA4)
        clear hw4 hA4 HG3 HB3 HR3 HAl
        go_wp2_with fail
        refine (HGo.out _ _ _ _ _ HG4.out HBk.out HR4.out).mono ?_
        rintro e w5 ⟨rfl, hB5⟩
        have HG5 := Lib.hid (HG4.out.below (Nat.le_refl _) hB5)
        have HB5 := Lib.hid (HB4.out.trans (hB5.mono HB4.out.size))
        have HR5 := Lib.hid (HR4.out.below hB5)
        have HBk5 := Lib.hid (HBk.out.below hB5 HBk.out.lt)
        clear hB5 HG4 HB4 HR4 HBk
        go_wp2_with fail
        refine (HGo.out _ _ _ _ _ HG5.out HBk5.out HR5.out).mono ?_
        rintro e w6 ⟨rfl, hB6⟩
        have HG6 := Lib.hid (HG5.out.below (Nat.le_refl _) hB6)
        have HB6 := Lib.hid (HB5.out.trans (hB6.mono HB5.out.size))
        clear hB6 HG5 HB5 HR5 HBk5
        go_wp2_with fail
        refine (HW.out _ HG6.out).mono ?_
        rintro e w7 ⟨rfl, hB7⟩
        have HB7 := Lib.hid (HB6.out.trans (hB7.mono HB6.out.size))
        clear hB7
        go_wp2
        go_ret
        exact ⟨rfl, HB7.out⟩
end Go.Proofs.YtdodkbpagbblmaaGreatDoor
end
