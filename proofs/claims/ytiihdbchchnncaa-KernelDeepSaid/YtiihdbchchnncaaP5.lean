import Derived.Laws.EntriesVeiled
import Derived.Test.YtiihdbchchnncaaP4
namespace Go.Proofs.Ytiihdbchchnncaa
open Go Go.RowKit

/-- The list tells which sorts are reached. -/
def ReachL (g : GramM) (L R : List Bool) : Prop := R.length = g.sorts.length ∧ ∀ k : Nat, R[k]? = some true ↔ RF g L g.start.toNat k
theorem reach_of {g : GramM} {L R : List Bool} {n : Nat} (hn : n = g.sorts.length) (h : Grew g L g.start.toNat (List.replicate n false) R) : ReachL g L R := by
  have hno : ∀ k : Nat, (List.replicate n false)[k]? ≠ some true := fun k hk => by
    rw [List.getElem?_replicate] at hk
    split at hk <;> simp at hk
  refine ⟨by rw [h.1.len, List.length_replicate, hn], fun k => ⟨fun hk => (h.1.sound k hk).resolve_left (hno k), fun hk => ?_⟩⟩
  induction hk with
  | refl => exact h.2
  | step _ e ih => exact h.1.closed _ _ ih (hno _) e
theorem ReachL.unique {g : GramM} {L R R' : List Bool} (h : ReachL g L R) (h' : ReachL g L R') : R = R' := by
  apply List.ext_getElem?
  intro k
  by_cases hk : k < g.sorts.length
  · have e1 : R[k]? = some (R[k]'(by rw [h.1]; exact hk)) := List.getElem?_eq_getElem _
    have e2 : R'[k]? = some (R'[k]'(by rw [h'.1]; exact hk)) := List.getElem?_eq_getElem _
    rw [e1, e2]
    have a := h.2 k
    have b := h'.2 k
    rw [e1] at a
    rw [e2] at b
    simp only [Option.some.injEq] at a b ⊢
    rw [Bool.eq_iff_iff]
    exact a.trans b.symm
  · rw [List.getElem?_eq_none (by rw [h.1]; omega), List.getElem?_eq_none (by rw [h'.1]; omega)]

set_option maxRecDepth 100000 in
set_option maxHeartbeats 2000000 in
theorem reached_any (g : GramM) (hm : MayB g) (L : List Bool) (hL : L.length = g.sorts.length) (w : World) (hg : GIn w g) (aL : Option Addr) (cL : Nat) (hlive : RowBool w aL L) :
    Calls Try.prog 37 #[gramV g, .slice aL L.length cL] w fun e w' => ∃ R, ReachL g L R ∧ e = .returned (.slice (some ⟨w.heap.size + 1 + 1, 0, none⟩) R.length R.length) ∧ Blk w' (w.heap.size + 1 + 1) 4 (bools R) ∧ Below w.heap.size w w' := by
  have hmk := fun w' => make_bools g.sorts.length hm.sorts2 w'
  obtain ⟨st, hst, hstn⟩ := hm.start
  obtain ⟨W1, hW1⟩ : ∃ W1, W1 = (((w.alloc (.cells (gramC g) 27)).alloc (.cells #[.slice aL L.length cL] 82)).alloc (.cells (bools (List.replicate g.sorts.length false)) 4)).alloc (.cells #[.slice (some ⟨w.heap.size + 1 + 1, 0, none⟩) g.sorts.length g.sorts.length] 82) := ⟨_, rfl⟩
  obtain ⟨W2, hW2⟩ : ∃ W2, W2 = W1.alloc (.cells #[.func (.func 56) #[] #[.pointer (some ⟨w.heap.size + 1 + 1 + 1, 0, none⟩), .pointer (some ⟨w.heap.size, 0, none⟩), .pointer (some ⟨w.heap.size + 1, 0, none⟩), .pointer (some ⟨w.heap.size + 1 + 1 + 1 + 1, 0, none⟩)]] 105) := ⟨_, rfl⟩
  have hs1 : W1.heap.size = w.heap.size + 1 + 1 + 1 + 1 := by rw [hW1]; simp
  have hVK : VK w w.heap.size (w.heap.size + 1) (w.heap.size + 1 + 1) (w.heap.size + 1 + 1 + 1) (w.heap.size + 1 + 1 + 1 + 1) := ⟨by omega, by omega, by omega, by omega, by omega⟩
  have hVI : VI g L w aL cL w.heap.size (w.heap.size + 1) (w.heap.size + 1 + 1) (w.heap.size + 1 + 1 + 1) (w.heap.size + 1 + 1 + 1 + 1) (List.replicate g.sorts.length false) W2 := by
    have b1 := Blk.new w 27 (gramC g)
    have b2 := Blk.new (w.alloc (.cells (gramC g) 27)) 82 #[.slice aL L.length cL]
    have b3 := Blk.new ((w.alloc (.cells (gramC g) 27)).alloc (.cells #[.slice aL L.length cL] 82)) 4 (bools (List.replicate g.sorts.length false))
    have b4 := Blk.new (((w.alloc (.cells (gramC g) 27)).alloc (.cells #[.slice aL L.length cL] 82)).alloc (.cells (bools (List.replicate g.sorts.length false)) 4)) 82 #[.slice (some ⟨w.heap.size + 1 + 1, 0, none⟩) g.sorts.length g.sorts.length]
    have b5 := Blk.new W1 105 #[.func (.func 56) #[] #[.pointer (some ⟨w.heap.size + 1 + 1 + 1, 0, none⟩), .pointer (some ⟨w.heap.size, 0, none⟩), .pointer (some ⟨w.heap.size + 1, 0, none⟩), .pointer (some ⟨w.heap.size + 1 + 1 + 1 + 1, 0, none⟩)]]
    rw [hs1] at b5
    simp only [World.size_alloc] at b2 b3 b4
    rw [hW2]
    refine ⟨?_, ?_, ?_, ?_, b5, ?_, by simp⟩
    · exact (show Below w.heap.size w W1 by rw [hW1]; exact ((((Below.refl _ w).alloc (Nat.le_refl _) _).alloc (by simp) _).alloc (by simp; omega) _).alloc (by simp; omega) _).alloc (by rw [hs1]; omega) _
    · exact Blk.alloc (by rw [hW1]; exact ((b1.alloc _).alloc _).alloc _) _
    · exact Blk.alloc (by rw [hW1]; exact (b2.alloc _).alloc _) _
    · exact Blk.alloc (by rw [hW1]; exact b4) _
    · exact Blk.alloc (by rw [hW1]; exact b3.alloc _) _
  have HC := Lib.hid (visit_any g hm L hL w hg aL cL _ _ _ _ _ hlive hVK _ (List.replicate g.sorts.length false) st W2 (Nat.le_refl _) hstn hVI)
  have v0 := hVI.bv.cell 0
  have s0 := hVI.bg.gram.2.2.1
  rw [hst] at s0
  simp only [List.getElem?_toArray, List.getElem?_cons_zero] at v0
  have lg := hVI.bg.lt
  have lv' := hVI.bv.lt
  have HR : Hid (∀ R, Grew g L st (List.replicate g.sorts.length false) R → ReachL g L R) := Lib.hid (fun R h => reach_of rfl (by rw [hst, Int.toNat_natCast]; exact h))
  have HW2 := Lib.hid hW2
  have HW1 := Lib.hid hW1
  have HB2 := Lib.hid hVI.b
  have HLen : Hid (∀ M, VI g L w aL cL w.heap.size (w.heap.size + 1) (w.heap.size + 1 + 1) (w.heap.size + 1 + 1 + 1) (w.heap.size + 1 + 1 + 1 + 1) M = VI g L w aL cL w.heap.size (w.heap.size + 1) (w.heap.size + 1 + 1) (w.heap.size + 1 + 1 + 1) (w.heap.size + 1 + 1 + 1 + 1) M) := Lib.hid (fun _ => rfl)
  clear hW1 hW2 hVI hs1 hm hg hlive hL
  unfold gramV
  unfold gramC at HW1 ⊢
  rw [hst] at HW1 ⊢
  clear hst
  have hmf : ∀ (fn : Fn) (first cap : Array Value) (w : World), (Instr.makeFunc fn first cap).run Try.prog w = .ok (.func fn first cap) w := fun _ _ _ _ => rfl
  go_enter Try.func37, Try.ntmps37
  go_wp2_with fail
  rw [← HW1.out, ← HW2.out]
  with_reducible refine HC.out.mono ?_
  rintro e w3 ⟨rfl, M', hI3, hgr, hG3⟩
  have hR := HR.out M' hgr
  have d0 := hI3.bm.cell 0
  simp only [List.getElem?_toArray, List.getElem?_cons_zero] at d0
  have ld := hI3.bm.lt
  have HF : Hid (∃ R, ReachL g L R ∧ Ending.returned (Value.slice (some ⟨w.heap.size + 1 + 1, 0, none⟩) g.sorts.length g.sorts.length) = .returned (.slice (some ⟨w.heap.size + 1 + 1, 0, none⟩) R.length R.length) ∧ Blk w3 (w.heap.size + 1 + 1) 4 (bools R) ∧ Below w.heap.size w w3) :=
    Lib.hid ⟨M', hR, by rw [hI3.len], hI3.q, hI3.b⟩
  clear hI3 hgr hG3 hR v0 s0 lg lv'
  go_wp2
  go_ret
  exact HF.out

set_option maxRecDepth 100000 in
set_option maxHeartbeats 1000000 in
theorem indexBool_any (a : Option Addr) (c : Nat) (l : List Bool) (w : World) (hl : RowBool w a l) (hn : l.length ≤ 1048576) :
    Calls Try.prog 36 #[.slice a l.length c, .bool false] w fun e w' => e = .returned (.int .i64 (firstI (fun b => !b) l)) ∧ w = w' := by
  have HL := Lib.hid hl
  clear hl
  obtain ⟨n, hln⟩ : ∃ n, n = l.length := ⟨_, rfl⟩
  rw [← hln] at hn ⊢
  have HN := Lib.hid hln
  clear hln
  go_enter Try.func36, Try.ntmps36
  go_wp2
  go_loop [8] (fun i => ∃ (m : Nat), i = .int .i64 m ∧ m ≤ n ∧ Hid (∀ (j : Nat) y, j < m → l[j]? = some y → (!y) = false)) (fun i => n - (intOf i).toNat)
  case atStart => exact ⟨0, rfl, Nat.zero_le _, Lib.hid (fun j y hj => by omega)⟩
  case round =>
    obtain ⟨m, rfl, hm, hS⟩ := hrel
    by_cases hlt : m < n
    · obtain ⟨x, hx⟩ : ∃ x, l[m]? = some x := ⟨_, List.getElem?_eq_getElem (by rw [← HN.out]; exact hlt)⟩
      have HX := Lib.hid hx
      obtain ⟨b, off, rfl, hbw, hc, ht⟩ := HL.out m x hx
      clear ht hx
      have c0 := Bool_at hc
      rw [Nat.mul_one] at c0
      have n1 : (m : Int) < (n : Int) := by omega
      clear hc
      cases x with
      | false =>
        have HT := Lib.hid (firstI_hit (fun b => !b) l m false HX.out rfl hS.out)
        clear hS
        go_wp2
        go_ret
        exact ⟨by rw [HT.out]; try rfl, rfl⟩
      | true =>
        have HQ : Hid (∀ (j : Nat) y, j < m + 1 → l[j]? = some y → (!y) = false) := Lib.hid (fun j y hj hy => by
          by_cases e : j = m
          · subst e
            rw [HX.out] at hy
            cases hy
            rfl
          · exact hS.out j y (by omega) hy)
        clear hS
        go_wp2
        go_round
        case rel => exact ⟨m + 1, by go_num, by omega, HQ⟩
        case measure => simp [intOf]; omega
    · obtain rfl : m = n := by omega
      have HT := Lib.hid (firstI_none (fun b => !b) l (fun j y hy => hS.out j y (by have := (List.getElem?_eq_some_iff.1 hy).1; have := HN.out; omega) hy))
      clear hS
      go_wp2
      go_ret
      exact ⟨by rw [HT.out]; try rfl, rfl⟩
end Go.Proofs.Ytiihdbchchnncaa
