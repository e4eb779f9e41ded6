import Derived.Deep.OwnRows
import Derived.Deep.LoopGhost
import Derived.Deep.Cut
import Derived.Test.YtiihdbchchnncaaP1
namespace Go.Proofs.Ytiihdbchchnncaa
open Go Go.RowKit

theorem Try.info4 : (Try.prog.info? 4).map (fun i => (i.zero, i.size, i.bytes)) = some (some (.bool false), 1, 1) := by kernel_rfl
theorem make_bools (n : Nat) (hn : n ≤ 1000) (w : World) : (Instr.makeSlice 82 (.int .i64 (n : Int)) (.int .i64 (n : Int))).run Try.prog w = .ok (.slice (some ⟨w.heap.size, 0, none⟩) n n) (w.alloc (.cells (bools (List.replicate n false)) 4)) := by
  obtain ⟨i0, hi, hz0, hz1, hz2⟩ := info_parts Try.info4
  rw [← bools_made]
  exact run_make_row 82 4 i0 (.bool false) Try.underlying82 hi hz0 hz1 rfl .i64 .i64 n (by rw [hz2]; omega) (by omega) w

set_option maxRecDepth 100000 in
set_option maxHeartbeats 400000 in
/-- productive's closure. -/
theorem f55_any (L : List Bool) (B Q : Nat) (j : Nat) (hj : j < L.length) (hL : L.length ≤ 1000) (w : World) (hb : Blk w B 82 #[.slice (some ⟨Q, 0, none⟩) L.length L.length]) (hq : Blk w Q 4 (bools L)) :
    Calls Try.prog 55 #[.int .i64 j, .pointer (some ⟨B, 0, none⟩)] w fun e w' => e = .returned (.bool (lv L j)) ∧ Below w.heap.size w w' := by
  have c0 := hb.cell 0
  simp only [List.getElem?_toArray, List.getElem?_cons_zero] at c0
  have c1 := (hq.cell j).trans (bools_at L j hj)
  have hB := hb.lt
  have hQ := hq.lt
  generalize lv L (j : Int) = r at *
  generalize L.length = n at *
  have h0 : (j : Int) < (n : Int) := by omega
  clear hb hq
  go_enter Try.func55, Try.ntmps55
  go_wp2
  go_ret
  exact ⟨rfl, Below.refl _ _⟩
set_option maxRecDepth 100000 in
set_option maxHeartbeats 400000 in
/-- reached's inner closure. -/
theorem f57_any (L : List Bool) (B : Nat) (a : Option Addr) (c : Nat) (j : Nat) (hj : j < L.length) (hL : L.length ≤ 1000) (w : World) (hb : Blk w B 82 #[.slice a L.length c]) (hq : RowBool w a L) :
    Calls Try.prog 57 #[.int .i64 j, .pointer (some ⟨B, 0, none⟩)] w fun e w' => e = .returned (.bool (lv L j)) ∧ Below w.heap.size w w' := by
  have c0 := hb.cell 0
  simp only [List.getElem?_toArray, List.getElem?_cons_zero] at c0
  obtain ⟨b, off, rfl, hbw, hc, ht⟩ := hq j _ (List.getElem?_eq_getElem hj)
  clear ht
  have c1 := Bool_at hc
  have e : lv L (j : Int) = L[j] := by unfold lv; simp [List.getD_eq_getElem?_getD, hj]
  rw [← e, Nat.mul_one] at c1
  have hB := hb.lt
  have h0 : (j : Int) < (L.length : Int) := by omega
  clear hb hq hc e hL
  generalize lv L (j : Int) = r at *
  clear hj
  generalize L.length = n at *
  go_enter Try.func57, Try.ntmps57
  go_wp2
  go_ret
  exact ⟨rfl, Below.refl _ _⟩

/-- What productive's blocks hold. -/
structure PI (g : GramM) (w wr : World) (L : List Bool) : Prop where
  b0 : Blk wr w.heap.size 27 (gramC g)
  b1 : Blk wr (w.heap.size + 1) 4 (bools L)
  b2 : Blk wr (w.heap.size + 1 + 1) 82 #[.slice (some ⟨w.heap.size + 1, 0, none⟩) g.sorts.length g.sorts.length]
  b : Below w.heap.size w wr
  len : L.length = g.sorts.length
theorem PI.below {g : GramM} {w wr W : World} {L : List Bool} (h : PI g w wr L) (hB : Below wr.heap.size wr W) : PI g w W L :=
  ⟨h.b0.below hB h.b0.lt, h.b1.below hB h.b1.lt, h.b2.below hB h.b2.lt, h.b.trans (hB.mono h.b.size), h.len⟩
theorem PI.set {g : GramM} {w wr : World} {L : List Bool} (h : PI g w wr L) (k : Nat) : PI g w (wr.setCell ⟨w.heap.size + 1, k, none⟩ (.bool true)) (L.set k true) :=
  ⟨h.b0.other (by show w.heap.size ≠ w.heap.size + 1; omega) _, by rw [← bools_set]; exact h.b1.set k _, h.b2.other (by show w.heap.size + 1 + 1 ≠ w.heap.size + 1; omega) _,
    h.b.setCell (p := ⟨w.heap.size + 1, k, none⟩) (by show w.heap.size ≤ w.heap.size + 1; omega) _, by rw [List.length_set]; exact h.len⟩

set_option maxRecDepth 100000 in
set_option maxHeartbeats 2000000 in
theorem productive_any (g : GramM) (hm : MayB g) (hf : Fit g) (w : World) (hg : GIn w g) :
    Calls Try.prog 35 #[gramV g] w fun e w' => ∃ L, Live g L ∧ e = .returned (.slice (some ⟨w.heap.size + 1, 0, none⟩) L.length L.length) ∧ Blk w' (w.heap.size + 1) 4 (bools L) ∧ Below w.heap.size w w' := by
  have hG := Lib.hid hg
  have hmk := fun w' => make_bools g.sorts.length hm.sorts2 w'
  have HM := Lib.hid hm
  have hn1 := hm.prods
  have HP0 : Hid (PI g w (((w.alloc (.cells (gramC g) 27)).alloc (.cells (bools (List.replicate g.sorts.length false)) 4)).alloc (.cells #[.slice (some ⟨w.heap.size + 1, 0, none⟩) g.sorts.length g.sorts.length] 82)) (List.replicate g.sorts.length false)) := Lib.hid (by
    have hb1 := Blk.new w 27 (gramC g)
    have hb2 := Blk.new (w.alloc (.cells (gramC g) 27)) 4 (bools (List.replicate g.sorts.length false))
    have hb3 := Blk.new ((w.alloc (.cells (gramC g) 27)).alloc (.cells (bools (List.replicate g.sorts.length false)) 4)) 82 #[.slice (some ⟨w.heap.size + 1, 0, none⟩) g.sorts.length g.sorts.length]
    simp only [World.size_alloc] at hb2 hb3
    exact ⟨(hb1.alloc _).alloc _, hb2.alloc _, hb3, (((Below.refl _ w).alloc (Nat.le_refl _) _).alloc (by simp) _).alloc (by simp; omega) _, by simp⟩)
  have HS0 : Hid (Sound g (List.replicate g.sorts.length false)) := Lib.hid (fun k hk => by
    rw [List.getElem?_replicate] at hk
    split at hk <;> simp at hk)
  clear hg hm hf
  unfold gramV
  unfold gramC at HP0 ⊢
  obtain ⟨pa, hpa⟩ : ∃ p, p = g.pa := ⟨_, rfl⟩
  have HRow := Lib.hid hG.out.prods
  rw [← hpa] at HP0 HRow ⊢
  have HPA := Lib.hid hpa
  clear hpa
  go_enter Try.func35, Try.ntmps35
  go_wp2
  go_step3
  go_wp2
  go_step3
  go_wp2
  clear hmk
  go_loopg [13] g.sorts.length (fun m _ wr => ∃ L, Hid (PI g w wr L) ∧ Hid (Sound g L) ∧ Hid (L.count false ≤ m))
  case atStart => exact ⟨_, HP0, HS0, Lib.hid (Nat.le_trans List.count_le_length (by simp))⟩
  case round =>
    clear HP0 HS0
    obtain ⟨L, hI, hS, hC⟩ := hrel
    have g1 := hI.out.b0.gram.2.1
    rw [← HPA.out] at g1
    have hl0 := hI.out.b0.lt
    go_wp2
    obtain ⟨wo, rfl⟩ : ∃ wo : World, wo = wr := ⟨_, rfl⟩
    obtain ⟨m0, rfl⟩ : ∃ m0 : Nat, m0 = gk := ⟨_, rfl⟩
    go_loopw [13] (fun i wr => ∃ k : Nat, i = .int .i64 k ∧ k ≤ g.prods.length ∧ Hid (PI g w wr L) ∧ Hid (∀ x, x ∈ g.prods.take k → okP L x = true → lv L x.left = true))
      (fun i _ => g.prods.length - (intOf i).toNat)
    case atStart => exact ⟨0, rfl, Nat.zero_le _, hI, Lib.hid (fun x h => by simp at h)⟩
    case round =>
      clear g1 hl0 hI
      obtain ⟨k, rfl, hk, hI, hD⟩ := hrel
      have hb0 := hI.out.b0.lt
      by_cases hlt : k < g.prods.length
      · obtain ⟨x, hx⟩ : ∃ x, g.prods[k]? = some x := ⟨_, List.getElem?_eq_getElem hlt⟩
        have HX := Lib.hid (List.mem_of_getElem? hx)
        have HT := Lib.hid (take_snoc g.prods k x hx)
        obtain ⟨b, off, rfl, hbw, hc, hpi⟩ := HRow.out k x hx
        have hc := hc.below hI.out.b hbw
        have hpi := hpi.below hI.out.b
        have hbr := Nat.lt_of_lt_of_le hbw hI.out.b.size
        obtain ⟨c0, c1, c2, c3, c4, c5, c6⟩ := Prod_at hc
        have n1 : (k : Int) < (g.prods.length : Int) := by omega
        obtain ⟨j, hj, hjn⟩ := HM.out.left x HX.out
        have hjl : j < L.length := by rw [hI.out.len]; exact hjn
        have HBx : Hid (Below wr.heap.size wr (wr.alloc (.cells (prodC x) 46))) := Lib.hid ((Below.refl _ _).alloc (Nat.le_refl _) _)
        have HI1 := Lib.hid (hI.out.below HBx.out)
        have d0 := (HI1.out.b1.cell j).trans (bools_at L j hjl)
        have HD0 : Hid (∀ W, Blk W (w.heap.size + 1) 4 (bools L) → W.cell? ⟨w.heap.size + 1, j, none⟩ = some (.bool (lv L j))) := Lib.hid (fun W h => (h.cell j).trans (bools_at L j hjl))
        have d2 := HI1.out.b2.cell 0
        simp only [List.getElem?_toArray, List.getElem?_cons_zero] at d2
        have l1 := HI1.out.b1.lt
        have l2 := HI1.out.b2.lt
        have hjn2 : (j : Int) < (g.sorts.length : Int) := by omega
        have HE := Lib.hid (eachSort_any x (lv L) 55 #[.pointer (some ⟨w.heap.size + 1 + 1, 0, none⟩)] (fun _ _ => by kernel_rfl) _ (hpi.below HBx.out) (by have := HM.out.right x HX.out; omega) (fun s hs hk W hW => by
          obtain ⟨t, ht, htn⟩ := HM.out.sym x HX.out s hs hk
          rw [ht]
          have hIW := HI1.out.below hW
          have hb2 := hIW.b2
          rw [← hIW.len] at hb2
          exact f55_any L _ _ t (by rw [hIW.len]; exact htn) (by rw [hIW.len]; exact HM.out.sorts2) W hb2 hIW.b1))
        have HD2 : Hid (∀ r1 r2 r3, r1 = lv L j → r2 = (x.role == 11) → r3 = sortsB (lv L) x → (r1 = true ∨ r2 = true ∨ r3 = false) → ∀ y, y ∈ g.prods.take (k + 1) → okP L y = true → lv L y.left = true) := Lib.hid (by
          rintro r1 r2 r3 h1 h2 h3 h y hy hok
          rw [HT.out] at hy
          rcases List.mem_append.1 hy with hy | hy
          · exact hD.out y hy hok
          · simp at hy
            subst hy
            rw [hj, ← h1]
            unfold okP at hok
            rw [← h2, ← h3] at hok
            rcases h with h | h | h
            · exact h
            · rw [h] at hok; cases hok
            · rw [h] at hok; simp at hok)
        have HS2 : Hid (lv L j = false → (x.role == 11) = false → sortsB (lv L) x = true → Sound g (L.set j true) ∧ (L.set j true).count false < L.count false) := Lib.hid (fun h1 h2 h3 => by
          have := sound_set hS.out HX.out (by unfold okP; rw [h2, h3]; rfl)
          rw [hj, Int.toNat_natCast] at this
          refine ⟨this, count_set ?_⟩
          have e : L[j]? = some (L[j]) := List.getElem?_eq_getElem hjl
          rw [e]
          unfold lv at h1
          rw [List.getD_eq_getElem?_getD, Int.toNat_natCast, e] at h1
          simpa using h1)
        clear hc hpi hbw hD hjn hjl HX HT hx
        obtain ⟨left, ra, rc, right, cons, role, prefer, avoid, frm⟩ := x
        unfold prodV prodC at *
        dsimp only at *
        subst hj
        generalize lv L (j : Int) = r1 at *
        cases r1 with
        | true =>
          have HD3 := Lib.hid (HD2.out true _ _ rfl rfl rfl (.inl rfl))
          clear HD2 HS2 HE
          go_wp2
          go_roundw
          case rel => exact ⟨k + 1, by go_num, by omega, HI1, HD3⟩
          case measure => simp [intOf]; omega
        | false =>
          by_cases hr : role = 11
          · subst hr
            have HD3 := Lib.hid (HD2.out false true _ rfl rfl rfl (.inr (.inl rfl)))
            clear HD2 HS2 HE
            go_wp2
            go_roundw
            case rel => exact ⟨k + 1, by go_num, by omega, HI1, HD3⟩
            case measure => simp [intOf]; omega
          · have e2 : (role == 11) = false := by simpa using hr
            have e3 : (role != 11) = true := by simpa using hr
            generalize sortsB (lv L) _ = r3 at *
            cases r3 with
            | false =>
              have HD3 := Lib.hid (HD2.out false false false rfl e2.symm rfl (.inr (.inr rfl)))
              clear HD2 HS2 e2 hr
              go_wp2_with fail
              with_reducible refine HE.out.mono ?_
              rintro e w3 ⟨rfl, hB3⟩
              have HI3 := Lib.hid (HI1.out.below hB3)
              clear hB3 d0 d2 c0 c1 c2 c3 c4 c5 c6
              go_wp2
              go_roundw
              case rel => exact ⟨k + 1, by go_num, by omega, HI3, HD3⟩
              case measure => simp [intOf]; omega
            | true =>
              have HS3 := Lib.hid (HS2.out rfl e2 rfl)
              clear HD2 HS2 e2 hr
              go_wp2_with fail
              with_reducible refine HE.out.mono ?_
              rintro e w3 ⟨rfl, hB3⟩
              have HI3 := Lib.hid (HI1.out.below hB3)
              have hbx := (Blk.new wr 46 #[.int .i64 (j : Int), .slice ra right.length rc, .string cons, .int .i64 role, .bool prefer, .bool avoid, .int .i64 frm]).below hB3 (by simp)
              have x0 := hbx.cell 0
              simp only [List.getElem?_toArray, List.getElem?_cons_zero] at x0
              have d2 := HI3.out.b2.cell 0
              simp only [List.getElem?_toArray, List.getElem?_cons_zero] at d2
              have l1 := HI3.out.b1.lt
              have l2 := HI3.out.b2.lt
              have l3 := hbx.lt
              have hfr := HI3.out.b1.frozen j
              have d3 := HD0.out _ HI3.out.b1
              have HI4 := Lib.hid (HI3.out.set j)
              have HC4 : Hid ((L.set j true).count false ≤ m0 - 1 ∧ 0 < m0) := Lib.hid (by have := HS3.out.2; have := hC.out; omega)
              have HS4 := Lib.hid HS3.out.1
              clear hB3 d0 c0 c1 c2 c3 c4 c5 c6 hbx HS3 HI3 hI HI1 hS hC
              go_wp2
              go_roundg (m0 - 1)
              case rel => exact ⟨_, HI4, HS4, Lib.hid HC4.out.1⟩
              case measure => have := HC4.out.2; omega
      · obtain rfl : k = g.prods.length := by omega
        have hD2 := hD.out
        rw [List.take_length] at hD2
        have HLv : Hid (Live g L) := Lib.hid (live_of hI.out.len hS.out hD2)
        have d2 := hI.out.b2.cell 0
        simp only [List.getElem?_toArray, List.getElem?_cons_zero] at d2
        have l2 := hI.out.b2.lt
        have HFin : Hid (∃ L, Live g L ∧ Ending.returned (Value.slice (some ⟨w.heap.size + 1, 0, none⟩) g.sorts.length g.sorts.length) = .returned (.slice (some ⟨w.heap.size + 1, 0, none⟩) L.length L.length) ∧ Blk wr (w.heap.size + 1) 4 (bools L) ∧ Below w.heap.size w wr) :=
          Lib.hid ⟨L, HLv.out, by rw [hI.out.len], hI.out.b1, hI.out.b⟩
        clear hD hD2 hI hS hC HLv
        go_wp2
        rw [Exit.noGoto_ret]
        go_ret
        exact HFin.out
end Go.Proofs.Ytiihdbchchnncaa
