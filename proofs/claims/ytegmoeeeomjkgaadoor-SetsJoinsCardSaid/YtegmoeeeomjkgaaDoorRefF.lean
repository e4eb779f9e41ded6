import Derived.Deep.DeepCutAuto
import Derived.Deep.RegionHeld3
import Derived.Test.YtegmoeeeomjkgaaDoorRefC
namespace Go.Proofs.YtegmoeeeomjkgaaDoor
open Go Go.RowKit

/-- Both's three kinds. -/
def KindF (kd : Int) (f : Bool → Bool → Bool) : Prop :=
  (kd = 0 ∧ ∀ x y, f x y = (x && y)) ∨ (kd = 1 ∧ ∀ x y, f x y = (x || y)) ∨ (kd = 2 ∧ ∀ x y, f x y = (x && !y))

set_option maxRecDepth 100000 in
set_option maxHeartbeats 16000000 in
theorem rboth_low (a b : BS) (kd : Int) (f : Bool → Bool → Bool) (hf : KindF kd f) (w : World) :
    Calls Tryd.prog 27 #[vset a, vset b, .int .i64 kd] w fun e w' => e = .returned (vset (lowB (fun j => f (a.getLsbD j) (b.getLsbD j)) 256)) ∧ Below w.heap.size w w' := by
  have HK := Lib.hid hf
  clear hf
  have HL : Hid (∀ k x y, a.getLsbD k = x → b.getLsbD k = y → lowB (fun j => f (a.getLsbD j) (b.getLsbD j)) (k + 1) = if f x y = true then withB (lowB (fun j => f (a.getLsbD j) (b.getLsbD j)) k) k else lowB (fun j => f (a.getLsbD j) (b.getLsbD j)) k) := fun k x y hx hy => by subst hx; subst hy; rfl
  have HZ0 : Hid (lowB (fun j => f (a.getLsbD j) (b.getLsbD j)) 0 = 0#256) := Lib.hid rfl
  generalize lowB (fun j => f (a.getLsbD j) (b.getLsbD j)) = L at HL HZ0 ⊢
  unfold vset
  go_enter Tryd.func27, Tryd.ntmps27
  go_wp2
  go_loopw [8] (fun i wr => ∃ (k : Nat), i = .int .i64 k ∧ k ≤ 256 ∧ Hid (Blk wr w.heap.size 29 (cset a)) ∧ Hid (Blk wr (w.heap.size + 1) 29 (cset b)) ∧ Hid (Blk wr (w.heap.size + 1 + 1) 29 zcs) ∧ Hid (Blk wr (w.heap.size + 1 + 1 + 1) 29 (cset (L k))) ∧ Hid (Below w.heap.size w wr))
    (fun i _ => 256 - (intOf i).toNat)
  case atStart =>
    refine ⟨0, rfl, Nat.zero_le _, ?_, ?_, ?_, ?_, ?_⟩
    · exact (((Blk.new w 29 _).alloc _).alloc _).alloc _
    · have h := ((Blk.new (w.alloc (.cells (cset a) 29)) 29 (cset b)).alloc (.cells zcs 29)).alloc (.cells zcs 29)
      rw [World.size_alloc] at h
      exact h
    · have h := (Blk.new ((w.alloc (.cells (cset a) 29)).alloc (.cells (cset b) 29)) 29 zcs).alloc (.cells zcs 29)
      rw [World.size_alloc, World.size_alloc] at h
      exact h
    · have h := Blk.new (((w.alloc (.cells (cset a) 29)).alloc (.cells (cset b) 29)).alloc (.cells zcs 29)) 29 zcs
      rw [World.size_alloc, World.size_alloc, World.size_alloc] at h
      rw [HZ0.out, cset_zero]
      exact h
    · exact ((((Below.refl _ w).alloc (Nat.le_refl _) _).alloc (by simp) _).alloc (by simp; omega) _).alloc (by simp; omega) _
  case round =>
    obtain ⟨k, rfl, hk, hA, hA2, hZ, hU, hB⟩ := hrel
    by_cases hlt : k < 256
    · obtain ⟨x, hx⟩ : ∃ x, a.getLsbD k = x := ⟨_, rfl⟩
      obtain ⟨y, hy⟩ : ∃ y, b.getLsbD k = y := ⟨_, rfl⟩
      have HN := Lib.hid (HL.out k x y hx hy)
      have HHa0 := rhas_any a k hlt
      have HHb0 := rhas_any b k hlt
      have HW0 := rwith_any (L k) k hlt
      rw [hx] at HHa0
      rw [hy] at HHb0
      clear hx hy
      obtain ⟨u, hu⟩ : ∃ u, u = L k := ⟨_, rfl⟩
      rw [← hu] at HN HW0 hU
      clear hu
      obtain ⟨u2, hu2⟩ : ∃ u2, u2 = withB u k := ⟨_, rfl⟩
      rw [← hu2] at HW0 HN
      clear hu2
      unfold vset at HHa0 HHb0 HW0
      have HHa := fun w' => Lib.hid (HHa0 w')
      have HHb := fun w' => Lib.hid (HHb0 w')
      have HW := fun w' => Lib.hid (HW0 w')
      clear HHa0 HHb0 HW0
      have a0 : wr.cell? ⟨w.heap.size, 0, none⟩ = some (.int .u64 (wdI a 0)) := hA.out.cell 0
      have a1 : wr.cell? ⟨w.heap.size, 1, none⟩ = some (.int .u64 (wdI a 1)) := hA.out.cell 1
      have a2 : wr.cell? ⟨w.heap.size, 2, none⟩ = some (.int .u64 (wdI a 2)) := hA.out.cell 2
      have a3 : wr.cell? ⟨w.heap.size, 3, none⟩ = some (.int .u64 (wdI a 3)) := hA.out.cell 3
      have b0 : wr.cell? ⟨w.heap.size + 1, 0, none⟩ = some (.int .u64 (wdI b 0)) := hA2.out.cell 0
      have b1 : wr.cell? ⟨w.heap.size + 1, 1, none⟩ = some (.int .u64 (wdI b 1)) := hA2.out.cell 1
      have b2 : wr.cell? ⟨w.heap.size + 1, 2, none⟩ = some (.int .u64 (wdI b 2)) := hA2.out.cell 2
      have b3 : wr.cell? ⟨w.heap.size + 1, 3, none⟩ = some (.int .u64 (wdI b 3)) := hA2.out.cell 3
      have hlt2 : w.heap.size + 1 + 1 + 1 < wr.heap.size := hU.out.lt
      go_upto_region 5 with fail
      go_cut [9, 10] (fun s9 s10 wx => s9 = .bool x ∧ s10 = .bool y ∧ Hid (Below wr.heap.size wr wx))
      case first =>
        have HKeep : Hid (∀ W W', Below wr.heap.size wr W → Below W.heap.size W W' → Below wr.heap.size wr W' ∧ (W'.cell? ⟨w.heap.size, 0, none⟩ = some (.int .u64 (wdI a 0)) ∧ W'.cell? ⟨w.heap.size, 1, none⟩ = some (.int .u64 (wdI a 1)) ∧ W'.cell? ⟨w.heap.size, 2, none⟩ = some (.int .u64 (wdI a 2)) ∧ W'.cell? ⟨w.heap.size, 3, none⟩ = some (.int .u64 (wdI a 3))) ∧ (W'.cell? ⟨w.heap.size + 1, 0, none⟩ = some (.int .u64 (wdI b 0)) ∧ W'.cell? ⟨w.heap.size + 1, 1, none⟩ = some (.int .u64 (wdI b 1)) ∧ W'.cell? ⟨w.heap.size + 1, 2, none⟩ = some (.int .u64 (wdI b 2)) ∧ W'.cell? ⟨w.heap.size + 1, 3, none⟩ = some (.int .u64 (wdI b 3)))) := by
          refine Lib.hid fun W W' h1 h2 => ?_
          have h3 := h1.trans (h2.mono h1.size)
          have hA' := hA.out.below h3 hA.out.lt
          have hB' := hA2.out.below h3 hA2.out.lt
          exact ⟨h3, ⟨hA'.cell 0, hA'.cell 1, hA'.cell 2, hA'.cell 3⟩, hB'.cell 0, hB'.cell 1, hB'.cell 2, hB'.cell 3⟩
        go_wp2_with fail
        go_region_held3 (fun W => (W.cell? ⟨w.heap.size, 0, none⟩ = some (.int .u64 (wdI a 0)) ∧ W.cell? ⟨w.heap.size, 1, none⟩ = some (.int .u64 (wdI a 1)) ∧ W.cell? ⟨w.heap.size, 2, none⟩ = some (.int .u64 (wdI a 2)) ∧ W.cell? ⟨w.heap.size, 3, none⟩ = some (.int .u64 (wdI a 3))) ∧ (W.cell? ⟨w.heap.size + 1, 0, none⟩ = some (.int .u64 (wdI b 0)) ∧ W.cell? ⟨w.heap.size + 1, 1, none⟩ = some (.int .u64 (wdI b 1)) ∧ W.cell? ⟨w.heap.size + 1, 2, none⟩ = some (.int .u64 (wdI b 2)) ∧ W.cell? ⟨w.heap.size + 1, 3, none⟩ = some (.int .u64 (wdI b 3)))) (go_keep)
          (first
            | (go_at_call 17; (with_reducible refine (HHa _).out.mono ?_); rintro e w' ⟨rfl, hB1⟩; obtain ⟨hBx, ⟨e0, e1, e2, e3⟩, e4, e5, e6, e7⟩ := HKeep.out _ _ (by first | assumption | exact (Below.refl _ wr).drew) hB1; clear hB1)
            | (go_at_call 17; (with_reducible refine (HHb _).out.mono ?_); rintro e w' ⟨rfl, hB1⟩; obtain ⟨hBx, ⟨e0, e1, e2, e3⟩, e4, e5, e6, e7⟩ := HKeep.out _ _ (by first | assumption | exact (Below.refl _ wr).drew) hB1; clear hB1))
        all_goals
          have HBX := Lib.hid hBx
          clear e0 e1 e2 e3 e4 e5 e6 e7 hBx
          go_wp2_with fail
          go_meet
          exact ⟨rfl, rfl, HBX⟩
      case rest =>
        obtain ⟨rfl, rfl, hBc⟩ := hcut
        have hA1 := Lib.hid (hA.out.below hBc.out hA.out.lt)
        have hA21 := Lib.hid (hA2.out.below hBc.out hA2.out.lt)
        have hZ1 := Lib.hid (hZ.out.below hBc.out hZ.out.lt)
        have hU1 := Lib.hid (hU.out.below hBc.out hU.out.lt)
        have hB1 := Lib.hid (hB.out.trans (hBc.out.mono hB.out.size))
        clear hA hA2 hZ hU hB hBc a0 a1 a2 a3 b0 b1 b2 b3 hlt2 HHa HHb
        have c0 : wc.cell? ⟨w.heap.size + 1 + 1 + 1, 0, none⟩ = some (.int .u64 (wdI u 0)) := hU1.out.cell 0
        have c1 : wc.cell? ⟨w.heap.size + 1 + 1 + 1, 1, none⟩ = some (.int .u64 (wdI u 1)) := hU1.out.cell 1
        have c2 : wc.cell? ⟨w.heap.size + 1 + 1 + 1, 2, none⟩ = some (.int .u64 (wdI u 2)) := hU1.out.cell 2
        have c3 : wc.cell? ⟨w.heap.size + 1 + 1 + 1, 3, none⟩ = some (.int .u64 (wdI u 3)) := hU1.out.cell 3
        have hlt3 : w.heap.size + 1 + 1 + 1 < wc.heap.size := hU1.out.lt
        go_upto_region 6 with fail
        go_cut [50] (fun s50 wx => s50 = .bool (f x y) ∧ wx = wc)
        case first =>
          rcases HK.out with ⟨rfl, hf⟩ | ⟨rfl, hf⟩ | ⟨rfl, hf⟩
          · have HF := Lib.hid hf
            clear hf HK
            cases x <;> cases y
            all_goals
              go_wp2_with fail
              go_meet
              exact ⟨by rw [HF.out]; rfl, rfl⟩
          · have HF := Lib.hid hf
            clear hf HK
            cases x <;> cases y
            all_goals
              go_wp2_with fail
              go_meet
              exact ⟨by rw [HF.out]; rfl, rfl⟩
          · have HF := Lib.hid hf
            clear hf HK
            cases x <;> cases y
            all_goals
              go_wp2_with fail
              go_meet
              exact ⟨by rw [HF.out]; rfl, rfl⟩
        case rest =>
          obtain ⟨rfl, rfl⟩ := hcut
          cases hv : f x y with
          | false =>
            rw [hv] at HN
            have HN2 : Hid (L (k + 1) = u) := Lib.hid HN.out
            clear hv HN HW
            go_wp2
            go_roundw
            case rel =>
              exact ⟨k + 1, by go_num, by omega, hA1, hA21, hZ1, by rw [HN2.out]; exact hU1, hB1⟩
            case measure => simp [intOf]; omega
          | true =>
            rw [hv] at HN
            have HN2 : Hid (L (k + 1) = u2) := Lib.hid HN.out
            clear hv HN
            go_wp2_with fail
            refine (HW _).out.mono ?_
            rintro e w2 ⟨rfl, hB2⟩
            have hA2 := Lib.hid (hA1.out.below hB2 (by omega))
            have hA3 := Lib.hid (hA21.out.below hB2 (by omega))
            have hZ2 := Lib.hid (hZ1.out.below hB2 (by omega))
            have hU2 := Lib.hid (hU1.out.below hB2 (by omega))
            have hBC := Lib.hid (hB1.out.trans (hB2.mono hB1.out.size))
            clear hA1 hA21 hZ1 hU1 hB1 hB2 c0 c1 c2 c3 HW
            have c0 : w2.cell? ⟨w.heap.size + 1 + 1 + 1, 0, none⟩ = some (.int .u64 (wdI u 0)) := hU2.out.cell 0
            have c1 : w2.cell? ⟨w.heap.size + 1 + 1 + 1, 1, none⟩ = some (.int .u64 (wdI u 1)) := hU2.out.cell 1
            have c2 : w2.cell? ⟨w.heap.size + 1 + 1 + 1, 2, none⟩ = some (.int .u64 (wdI u 2)) := hU2.out.cell 2
            have c3 : w2.cell? ⟨w.heap.size + 1 + 1 + 1, 3, none⟩ = some (.int .u64 (wdI u 3)) := hU2.out.cell 3
            have fz : ∀ i, w2.frozen? ⟨w.heap.size + 1 + 1 + 1, i, none⟩ = false := hU2.out.frozen
            go_wp2
            go_roundw
            case rel =>
              refine ⟨k + 1, by go_num, by omega, ?_, ?_, ?_, ?_, ?_⟩
              · exact (((hA2.out.other (by simp; omega) _).other (by simp; omega) _).other (by simp; omega) _).other (by simp; omega) _
              · exact (((hA3.out.other (by simp) _).other (by simp) _).other (by simp) _).other (by simp) _
              · exact (((hZ2.out.other (by simp) _).other (by simp) _).other (by simp) _).other (by simp) _
              · rw [HN2.out]; exact hU2.out.set4 _ _ _ _
              · exact below_set4 hBC.out (by omega) _ _ _ _
            case measure => simp [intOf]; omega
    · obtain rfl : k = 256 := by omega
      obtain ⟨ns, hns⟩ : ∃ ns, ns = L 256 := ⟨_, rfl⟩
      rw [← hns] at hU
      have HNS := Lib.hid hns
      clear hns
      have c0 : wr.cell? ⟨w.heap.size + 1 + 1 + 1, 0, none⟩ = some (.int .u64 (wdI ns 0)) := Blk.cell hU.out 0
      have c1 : wr.cell? ⟨w.heap.size + 1 + 1 + 1, 1, none⟩ = some (.int .u64 (wdI ns 1)) := Blk.cell hU.out 1
      have c2 : wr.cell? ⟨w.heap.size + 1 + 1 + 1, 2, none⟩ = some (.int .u64 (wdI ns 2)) := Blk.cell hU.out 2
      have c3 : wr.cell? ⟨w.heap.size + 1 + 1 + 1, 3, none⟩ = some (.int .u64 (wdI ns 3)) := Blk.cell hU.out 3
      have z0 : wr.cell? ⟨w.heap.size + 1 + 1, 0, none⟩ = some (.int .u64 0) := Blk.cell hZ.out 0
      have z1 : wr.cell? ⟨w.heap.size + 1 + 1, 1, none⟩ = some (.int .u64 0) := Blk.cell hZ.out 1
      have z2 : wr.cell? ⟨w.heap.size + 1 + 1, 2, none⟩ = some (.int .u64 0) := Blk.cell hZ.out 2
      have z3 : wr.cell? ⟨w.heap.size + 1 + 1, 3, none⟩ = some (.int .u64 0) := Blk.cell hZ.out 3
      have fz : ∀ i, wr.frozen? ⟨w.heap.size + 1 + 1, i, none⟩ = false := Blk.frozen hZ.out
      go_wp2
      have y := Blk.set4 hZ.out (.int .u64 (wdI ns 0)) (.int .u64 (wdI ns 1)) (.int .u64 (wdI ns 2)) (.int .u64 (wdI ns 3))
      have y0 := y.cell 0
      have y1 := y.cell 1
      have y2 := y.cell 2
      have y3 := y.cell 3
      refine bodyPost_ret (v := .agg #[.int .u64 (wdI ns 0), .int .u64 (wdI ns 1), .int .u64 (wdI ns 2), .int .u64 (wdI ns 3)]) (by simp [results, Tryd.results27, go_sem, y0, y1, y2, y3]) rfl ⟨by rw [HNS.out], ?_⟩
      exact below_set4 hB.out (by omega) _ _ _ _

theorem rboth_meet (a b : BS) (w : World) : Calls Tryd.prog 27 #[vset a, vset b, .int .i64 0] w fun e w' => e = .returned (vset (a &&& b)) ∧ Below w.heap.size w w' := by
  have h := rboth_low a b 0 (fun x y => x && y) (.inl ⟨rfl, fun _ _ => rfl⟩) w
  rw [lowB_eq _ (a &&& b) (fun j _ => by rw [BitVec.getLsbD_and])] at h
  exact h
theorem rboth_join (a b : BS) (w : World) : Calls Tryd.prog 27 #[vset a, vset b, .int .i64 1] w fun e w' => e = .returned (vset (a ||| b)) ∧ Below w.heap.size w w' := by
  have h := rboth_low a b 1 (fun x y => x || y) (.inr (.inl ⟨rfl, fun _ _ => rfl⟩)) w
  rw [lowB_eq _ (a ||| b) (fun j _ => by rw [BitVec.getLsbD_or])] at h
  exact h
theorem rboth_without (a b : BS) (w : World) : Calls Tryd.prog 27 #[vset a, vset b, .int .i64 2] w fun e w' => e = .returned (vset (a &&& ~~~b)) ∧ Below w.heap.size w w' := by
  have h := rboth_low a b 2 (fun x y => x && !y) (.inr (.inr ⟨rfl, fun _ _ => rfl⟩)) w
  rw [lowB_eq _ (a &&& ~~~b) (fun j hj => by rw [BitVec.getLsbD_and, BitVec.getLsbD_not]; simp [hj])] at h
  exact h
end Go.Proofs.YtegmoeeeomjkgaaDoor
