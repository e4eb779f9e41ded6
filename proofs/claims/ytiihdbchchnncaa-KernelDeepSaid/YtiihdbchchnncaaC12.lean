import Derived.Test.YtiihdbchchnncaaC10
import Derived.Test.YtiihdbchchnncaaC11
namespace Go.Proofs.Ytiihdbchchnncaa
open Go Go.RowKit

theorem conditions_any (w : World) : Calls Try.prog 40 #[] w fun e w' => e = .returned (.slice (some ⟨w.heap.size, 0, none⟩) 5 5) ∧ w' = w.alloc (.cells #[.func (.func 59) #[] #[], .func (.func 60) #[] #[], .func (.func 61) #[] #[], .func (.func 62) #[] #[], .func (.func 63) #[] #[]] 28) := by
  go_enter Try.func40, Try.ntmps40
  go_wp2
  go_ret
  exact ⟨rfl, rfl⟩

/-- The five conditions, from the i-th on. -/
def condB (g : GramM) : Nat → Bool
  | 0 => sortsB' g
  | 1 => startB g
  | 2 => prodsB g
  | 3 => forbidsB g
  | _ => followsB g
/-- May a grammar be? -/
def checkB (g : GramM) : Bool := sortsB' g && (startB g && (prodsB g && (forbidsB g && followsB g)))
def errI (b : Bool) : Int := if b then 0 else 160

theorem cond_any (g : GramM) (hf : FitG g) (i : Nat) (hi : i < 5) (w : World) (hg : GIn w g) : Calls Try.prog (59 + i) #[gramV g] w fun e w' => e = .returned (.bool (condB g i)) ∧ Below w.heap.size w w' := by
  have h : i = 0 ∨ i = 1 ∨ i = 2 ∨ i = 3 ∨ i = 4 := by omega
  rcases h with rfl | rfl | rfl | rfl | rfl
  · exact sortsMay_any g w hg hf.fit
  · exact startMay_any g w
  · exact prodsMay_any g w hg hf.fit
  · exact forbidsMay_any g w hg hf
  · exact followsMay_any g w hg hf

set_option maxRecDepth 100000 in
set_option maxHeartbeats 2000000 in
theorem check_any (g : GramM) (w : World) (hg : GIn w g) (hf : FitG g) : Calls Try.prog 15 #[gramV g] w fun e w' => e = .returned (.int .i64 (errI (checkB g))) ∧ Below w.heap.size w w' := by
  have HC := Lib.hid (fun i hi W (hW : Below w.heap.size w W) => cond_any g hf i hi W (hg.below hW))
  have HB0 : Hid (Below w.heap.size w ((w.alloc (.cells (gramC g) 27)).alloc (.cells #[.func (.func 59) #[] #[], .func (.func 60) #[] #[], .func (.func 61) #[] #[], .func (.func 62) #[] #[], .func (.func 63) #[] #[]] 28))) := Lib.hid (((Below.refl _ _).alloc (Nat.le_refl _) _).alloc (by simp) _)
  have HK0 : Hid (Blk ((w.alloc (.cells (gramC g) 27)).alloc (.cells #[.func (.func 59) #[] #[], .func (.func 60) #[] #[], .func (.func 61) #[] #[], .func (.func 62) #[] #[], .func (.func 63) #[] #[]] 28)) w.heap.size 27 (gramC g)) := Lib.hid ((Blk.new w 27 (gramC g)).alloc _)
  have HF0 : Hid (Blk ((w.alloc (.cells (gramC g) 27)).alloc (.cells #[.func (.func 59) #[] #[], .func (.func 60) #[] #[], .func (.func 61) #[] #[], .func (.func 62) #[] #[], .func (.func 63) #[] #[]] 28)) (w.heap.size + 1) 28 #[.func (.func 59) #[] #[], .func (.func 60) #[] #[], .func (.func 61) #[] #[], .func (.func 62) #[] #[], .func (.func 63) #[] #[]]) := Lib.hid (by
    have h := Blk.new (w.alloc (.cells (gramC g) 27)) 28 #[.func (.func 59) #[] #[], .func (.func 60) #[] #[], .func (.func 61) #[] #[], .func (.func 62) #[] #[], .func (.func 63) #[] #[]]
    rw [World.size_alloc] at h
    exact h)
  have HR : Hid (checkB g = (condB g 0 && (condB g 1 && (condB g 2 && (condB g 3 && condB g 4))))) := Lib.hid rfl
  clear hg hf
  unfold gramV at *
  generalize checkB g = q at *
  unfold gramC at *
  go_enter Try.func15, Try.ntmps15
  go_wp2_with (go_at_call 40; refine (conditions_any _).mono ?_; rintro e w' ⟨rfl, rfl⟩)
  go_loopw [7] (fun i wr => ∃ (k : Nat), i = .int .i64 k ∧ k ≤ 5 ∧ Hid (∀ j, j < k → condB g j = true)
      ∧ Hid (Blk wr w.heap.size 27 #[.slice g.sa g.sorts.length g.sc, .slice g.pa g.prods.length g.pc, .int .i64 g.start, .slice g.fa g.forbid.length g.fc, .slice g.wa g.follow.length g.wc])
      ∧ Hid (Blk wr (w.heap.size + 1) 28 #[.func (.func 59) #[] #[], .func (.func 60) #[] #[], .func (.func 61) #[] #[], .func (.func 62) #[] #[], .func (.func 63) #[] #[]]) ∧ Hid (Below w.heap.size w wr))
    (fun i _ => 5 - (intOf i).toNat)
  case atStart => exact ⟨0, rfl, Nat.zero_le _, Lib.hid (fun j hj => by omega), HK0, HF0, HB0⟩
  case round =>
    clear HB0 HK0 HF0
    obtain ⟨k, rfl, hk, hA, hK, hF, hB⟩ := hrel
    have hlK := hK.out.lt
    have hlF := hF.out.lt
    have g0 := hK.out.cell 0
    have g1 := hK.out.cell 1
    have g2 := hK.out.cell 2
    have g3 := hK.out.cell 3
    have g4 := hK.out.cell 4
    simp only [List.getElem?_toArray, List.getElem?_cons_zero, List.getElem?_cons_succ] at g0 g1 g2 g3 g4
    have hcase : k = 0 ∨ k = 1 ∨ k = 2 ∨ k = 3 ∨ k = 4 ∨ k = 5 := by omega
    have key : ∀ r, condB g k = r → (r = false → k < 5 → Hid (q = false)) ∧ (r = true → Hid (∀ j, j < k + 1 → condB g j = true)) := fun r hr => ⟨fun h h5 => Lib.hid (by
        rw [HR.out]
        have h0 : k = 0 ∨ k = 1 ∨ k = 2 ∨ k = 3 ∨ k = 4 := by omega
        rcases h0 with rfl | rfl | rfl | rfl | rfl <;> simp [hr, h]), fun h => Lib.hid (fun j hj => by
        by_cases e : j = k
        · subst e; rw [hr, h]
        · exact hA.out j (by omega))⟩
    have hcN : ∀ (i : Nat), i < 5 → ∀ r, r = condB g i → Hid (Calls Try.prog (59 + i) #[.agg #[.slice g.sa g.sorts.length g.sc, .slice g.pa g.prods.length g.pc, .int .i64 g.start, .slice g.fa g.forbid.length g.fc, .slice g.wa g.follow.length g.wc]] wr fun e w' => e = .returned (.bool r) ∧ Below wr.heap.size wr w') := fun i hi r hr => Lib.hid (by rw [hr]; exact HC.out i hi wr hB.out)
    rcases hcase with rfl | rfl | rfl | rfl | rfl | rfl
    · obtain ⟨r, hr⟩ : ∃ r, r = condB g 0 := ⟨_, rfl⟩
      obtain ⟨kf, kt⟩ := key r hr.symm
      have HCk : Hid (Calls Try.prog 59 #[.agg #[.slice g.sa g.sorts.length g.sc, .slice g.pa g.prods.length g.pc, .int .i64 g.start, .slice g.fa g.forbid.length g.fc, .slice g.wa g.follow.length g.wc]] wr fun e w' => e = .returned (.bool r) ∧ Below wr.heap.size wr w') := hcN 0 (by omega) r hr
      have f0 := hF.out.cell 0
      simp only [List.getElem?_toArray, List.getElem?_cons_zero, List.getElem?_cons_succ] at f0
      clear key hcN hr hA
      cases r with
      | true =>
        have hA2 := kt rfl
        clear kf kt
        go_wp2_with fail
        with_reducible refine HCk.out.mono ?_
        rintro e w3 ⟨rfl, hB3⟩
        have hK3 := Lib.hid (hK.out.below hB3 hK.out.lt)
        have hF3 := Lib.hid (hF.out.below hB3 hF.out.lt)
        have HB3 := Lib.hid (hB.out.trans (hB3.mono hB.out.size))
        clear hB3 g0 g1 g2 g3 g4 f0 hK hF hB
        go_wp2
        go_roundw
        case rel => exact ⟨1, by go_num, by omega, hA2, hK3, hF3, HB3⟩
        case measure => simp [intOf]
      | false =>
        have HR2 := kf rfl (by omega)
        clear kf kt
        go_wp2_with fail
        with_reducible refine HCk.out.mono ?_
        rintro e w3 ⟨rfl, hB3⟩
        have HB3 := Lib.hid (hB.out.trans (hB3.mono hB.out.size))
        clear hB3 g0 g1 g2 g3 g4 f0 hK hF hB
        go_wp2
        go_ret
        exact ⟨by rw [HR2.out]; try rfl, HB3.out⟩
    · obtain ⟨r, hr⟩ : ∃ r, r = condB g 1 := ⟨_, rfl⟩
      obtain ⟨kf, kt⟩ := key r hr.symm
      have HCk : Hid (Calls Try.prog 60 #[.agg #[.slice g.sa g.sorts.length g.sc, .slice g.pa g.prods.length g.pc, .int .i64 g.start, .slice g.fa g.forbid.length g.fc, .slice g.wa g.follow.length g.wc]] wr fun e w' => e = .returned (.bool r) ∧ Below wr.heap.size wr w') := hcN 1 (by omega) r hr
      have f0 := hF.out.cell 1
      simp only [List.getElem?_toArray, List.getElem?_cons_zero, List.getElem?_cons_succ] at f0
      clear key hcN hr hA
      cases r with
      | true =>
        have hA2 := kt rfl
        clear kf kt
        go_wp2_with fail
        with_reducible refine HCk.out.mono ?_
        rintro e w3 ⟨rfl, hB3⟩
        have hK3 := Lib.hid (hK.out.below hB3 hK.out.lt)
        have hF3 := Lib.hid (hF.out.below hB3 hF.out.lt)
        have HB3 := Lib.hid (hB.out.trans (hB3.mono hB.out.size))
        clear hB3 g0 g1 g2 g3 g4 f0 hK hF hB
        go_wp2
        go_roundw
        case rel => exact ⟨2, by go_num, by omega, hA2, hK3, hF3, HB3⟩
        case measure => simp [intOf]
      | false =>
        have HR2 := kf rfl (by omega)
        clear kf kt
        go_wp2_with fail
        with_reducible refine HCk.out.mono ?_
        rintro e w3 ⟨rfl, hB3⟩
        have HB3 := Lib.hid (hB.out.trans (hB3.mono hB.out.size))
        clear hB3 g0 g1 g2 g3 g4 f0 hK hF hB
        go_wp2
        go_ret
        exact ⟨by rw [HR2.out]; try rfl, HB3.out⟩
    · obtain ⟨r, hr⟩ : ∃ r, r = condB g 2 := ⟨_, rfl⟩
      obtain ⟨kf, kt⟩ := key r hr.symm
      have HCk : Hid (Calls Try.prog 61 #[.agg #[.slice g.sa g.sorts.length g.sc, .slice g.pa g.prods.length g.pc, .int .i64 g.start, .slice g.fa g.forbid.length g.fc, .slice g.wa g.follow.length g.wc]] wr fun e w' => e = .returned (.bool r) ∧ Below wr.heap.size wr w') := hcN 2 (by omega) r hr
      have f0 := hF.out.cell 2
      simp only [List.getElem?_toArray, List.getElem?_cons_zero, List.getElem?_cons_succ] at f0
      clear key hcN hr hA
      cases r with
      | true =>
        have hA2 := kt rfl
        clear kf kt
        go_wp2_with fail
        with_reducible refine HCk.out.mono ?_
        rintro e w3 ⟨rfl, hB3⟩
        have hK3 := Lib.hid (hK.out.below hB3 hK.out.lt)
        have hF3 := Lib.hid (hF.out.below hB3 hF.out.lt)
        have HB3 := Lib.hid (hB.out.trans (hB3.mono hB.out.size))
        clear hB3 g0 g1 g2 g3 g4 f0 hK hF hB
        go_wp2
        go_roundw
        case rel => exact ⟨3, by go_num, by omega, hA2, hK3, hF3, HB3⟩
        case measure => simp [intOf]
      | false =>
        have HR2 := kf rfl (by omega)
        clear kf kt
        go_wp2_with fail
        with_reducible refine HCk.out.mono ?_
        rintro e w3 ⟨rfl, hB3⟩
        have HB3 := Lib.hid (hB.out.trans (hB3.mono hB.out.size))
        clear hB3 g0 g1 g2 g3 g4 f0 hK hF hB
        go_wp2
        go_ret
        exact ⟨by rw [HR2.out]; try rfl, HB3.out⟩
    · obtain ⟨r, hr⟩ : ∃ r, r = condB g 3 := ⟨_, rfl⟩
      obtain ⟨kf, kt⟩ := key r hr.symm
      have HCk : Hid (Calls Try.prog 62 #[.agg #[.slice g.sa g.sorts.length g.sc, .slice g.pa g.prods.length g.pc, .int .i64 g.start, .slice g.fa g.forbid.length g.fc, .slice g.wa g.follow.length g.wc]] wr fun e w' => e = .returned (.bool r) ∧ Below wr.heap.size wr w') := hcN 3 (by omega) r hr
      have f0 := hF.out.cell 3
      simp only [List.getElem?_toArray, List.getElem?_cons_zero, List.getElem?_cons_succ] at f0
      clear key hcN hr hA
      cases r with
      | true =>
        have hA2 := kt rfl
        clear kf kt
        go_wp2_with fail
        with_reducible refine HCk.out.mono ?_
        rintro e w3 ⟨rfl, hB3⟩
        have hK3 := Lib.hid (hK.out.below hB3 hK.out.lt)
        have hF3 := Lib.hid (hF.out.below hB3 hF.out.lt)
        have HB3 := Lib.hid (hB.out.trans (hB3.mono hB.out.size))
        clear hB3 g0 g1 g2 g3 g4 f0 hK hF hB
        go_wp2
        go_roundw
        case rel => exact ⟨4, by go_num, by omega, hA2, hK3, hF3, HB3⟩
        case measure => simp [intOf]
      | false =>
        have HR2 := kf rfl (by omega)
        clear kf kt
        go_wp2_with fail
        with_reducible refine HCk.out.mono ?_
        rintro e w3 ⟨rfl, hB3⟩
        have HB3 := Lib.hid (hB.out.trans (hB3.mono hB.out.size))
        clear hB3 g0 g1 g2 g3 g4 f0 hK hF hB
        go_wp2
        go_ret
        exact ⟨by rw [HR2.out]; try rfl, HB3.out⟩
    · obtain ⟨r, hr⟩ : ∃ r, r = condB g 4 := ⟨_, rfl⟩
      obtain ⟨kf, kt⟩ := key r hr.symm
      have HCk : Hid (Calls Try.prog 63 #[.agg #[.slice g.sa g.sorts.length g.sc, .slice g.pa g.prods.length g.pc, .int .i64 g.start, .slice g.fa g.forbid.length g.fc, .slice g.wa g.follow.length g.wc]] wr fun e w' => e = .returned (.bool r) ∧ Below wr.heap.size wr w') := hcN 4 (by omega) r hr
      have f0 := hF.out.cell 4
      simp only [List.getElem?_toArray, List.getElem?_cons_zero, List.getElem?_cons_succ] at f0
      clear key hcN hr hA
      cases r with
      | true =>
        have hA2 := kt rfl
        clear kf kt
        go_wp2_with fail
        with_reducible refine HCk.out.mono ?_
        rintro e w3 ⟨rfl, hB3⟩
        have hK3 := Lib.hid (hK.out.below hB3 hK.out.lt)
        have hF3 := Lib.hid (hF.out.below hB3 hF.out.lt)
        have HB3 := Lib.hid (hB.out.trans (hB3.mono hB.out.size))
        clear hB3 g0 g1 g2 g3 g4 f0 hK hF hB
        go_wp2
        go_roundw
        case rel => exact ⟨5, by go_num, by omega, hA2, hK3, hF3, HB3⟩
        case measure => simp [intOf]
      | false =>
        have HR2 := kf rfl (by omega)
        clear kf kt
        go_wp2_with fail
        with_reducible refine HCk.out.mono ?_
        rintro e w3 ⟨rfl, hB3⟩
        have HB3 := Lib.hid (hB.out.trans (hB3.mono hB.out.size))
        clear hB3 g0 g1 g2 g3 g4 f0 hK hF hB
        go_wp2
        go_ret
        exact ⟨by rw [HR2.out]; try rfl, HB3.out⟩
    · have HR2 : Hid (q = true) := Lib.hid (by rw [HR.out, hA.out 0 (by omega), hA.out 1 (by omega), hA.out 2 (by omega), hA.out 3 (by omega), hA.out 4 (by omega)]; rfl)
      clear key hA hcN
      go_wp2
      go_ret
      exact ⟨by rw [HR2.out]; try rfl, hB.out⟩
end Go.Proofs.Ytiihdbchchnncaa
