import Derived.Test.YtegmoeeeomjkgaaDoorRefB
namespace Go.Proofs.YtegmoeeeomjkgaaDoor
open Go Go.RowKit

set_option maxRecDepth 100000 in
set_option maxHeartbeats 8000000 in
theorem rmake_any (a : Option Addr) (cap : Nat) (rs : List (Nat × Nat)) (w : World) (hd : RowR w a rs) (hs : SmallR rs) (hl : rs.length ≤ 281474976710656) :
    Calls Tryd.prog 12 #[.slice a rs.length cap] w fun e w' => e = .returned (makeV rs) ∧ Below w.heap.size w w' := by
  have HD := Lib.hid hd
  have HZ := Lib.hid vset_zero
  clear hd
  go_enter Tryd.func12, Tryd.ntmps12
  go_wp2
  go_loopw [5] (fun i wr => ∃ (k : Nat) (u : BS), i = .int .i64 k ∧ k ≤ rs.length ∧ Hid (makeR 0#256 (rs.take k) = some u) ∧ Hid (Blk wr w.heap.size 29 zcs) ∧ Hid (Blk wr (w.heap.size + 1) 29 (cset u)) ∧ Hid (Below w.heap.size w wr))
    (fun i _ => rs.length - (intOf i).toNat)
  case atStart =>
    refine ⟨0, 0#256, rfl, Nat.zero_le _, rfl, ?_, ?_, ?_⟩
    · exact (Blk.new w 29 zcs).alloc _
    · have h := Blk.new (w.alloc (.cells #[.int .u64 0, .int .u64 0, .int .u64 0, .int .u64 0] 29)) 29 #[.int .u64 0, .int .u64 0, .int .u64 0, .int .u64 0]
      rw [World.size_alloc] at h
      rw [cset_zero]
      exact h
    · exact ((Below.refl _ w).alloc (Nat.le_refl _) _).alloc (by simp) _
  case round =>
    obtain ⟨k, u, rfl, hk, hm, hZ, hU, hB⟩ := hrel
    by_cases hlt : k < rs.length
    · have HX : Hid (rs[k]? = some rs[k]) := Lib.hid (List.getElem?_eq_getElem hlt)
      obtain ⟨x1, x2⟩ := hs rs[k] (List.getElem_mem hlt)
      obtain ⟨x, hx⟩ : ∃ x, rs[k] = x := ⟨_, rfl⟩
      rw [hx] at HX x1 x2
      have HMs : Hid (makeR 0#256 (rs.take (k + 1)) = if x.2 < x.1 then none else some (addR u x)) := by
        refine Lib.hid ?_
        rw [List.take_add_one, HX.out]; exact makeR_snoc _ _ _ _ hm.out
      clear hx
      obtain ⟨f, t⟩ := x
      dsimp only at x1 x2
      obtain ⟨b, off, rfl, e1, e2⟩ := HD.out k _ HX.out
      have bl : b < w.heap.size := lt_of_cell e1
      have r1 : wr.cell? ⟨b, off + k * 2, none⟩ = some (.int .u8 f) := (hB.out.cell (p := ⟨b, _, none⟩) bl).trans e1
      have r2 : wr.cell? ⟨b, off + k * 2 + 1, none⟩ = some (.int .u8 t) := (hB.out.cell (p := ⟨b, _, none⟩) bl).trans e2
      by_cases hft : t < f
      · have HV : makeV rs = .tuple #[.agg #[.int .u64 0, .int .u64 0, .int .u64 0, .int .u64 0], .int .i64 4] := by
          have h1 := HMs.out
          rw [if_pos hft] at h1
          have h2 := makeR_none _ _ (rs.drop (k + 1)) h1
          rw [List.take_append_drop] at h2
          unfold makeV; rw [h2, HZ.out]
        have HVV := Lib.hid HV
        clear HV
        have z0 : wr.cell? ⟨w.heap.size, 0, none⟩ = some (.int .u64 0) := Blk.cell hZ.out 0
        have z1 : wr.cell? ⟨w.heap.size, 1, none⟩ = some (.int .u64 0) := Blk.cell hZ.out 1
        have z2 : wr.cell? ⟨w.heap.size, 2, none⟩ = some (.int .u64 0) := Blk.cell hZ.out 2
        have z3 : wr.cell? ⟨w.heap.size, 3, none⟩ = some (.int .u64 0) := Blk.cell hZ.out 3
        have fz : ∀ i, wr.frozen? ⟨w.heap.size, i, none⟩ = false := Blk.frozen hZ.out
        go_wp2
        go_region
        go_wp2
        have y := Blk.set4 hZ.out (.int .u64 0) (.int .u64 0) (.int .u64 0) (.int .u64 0)
        have y0 := y.cell 0
        have y1 := y.cell 1
        have y2 := y.cell 2
        have y3 := y.cell 3
        refine bodyPost_ret (v := .tuple #[.agg #[.int .u64 0, .int .u64 0, .int .u64 0, .int .u64 0], .int .i64 4]) (by simp [results, Tryd.results12, go_sem, y0, y1, y2, y3]) rfl ⟨by rw [HVV.out], ?_⟩
        first | exact below_set4 hB.out.drew (Nat.le_refl _) _ _ _ _ | exact (below_set4 hB.out (Nat.le_refl _) _ _ _ _).drew
      · have hHR : Hid (∀ n, t + 1 - f = n → addN u f n = addR u (f, t)) := fun n h => by subst h; rfl
        have HM2 : Hid (makeR 0#256 (rs.take (k + 1)) = some (addR u (f, t))) := Lib.hid (by rw [HMs.out, if_neg hft])
        go_wp2
        go_region
        go_wp2
        have hZd : Hid (Blk wr.drew w.heap.size 29 zcs) := hZ.out.drew
        have hUd : Hid (Blk wr.drew (w.heap.size + 1) 29 (cset u)) := hU.out.drew
        have hBd : Hid (Below w.heap.size w wr.drew) := hB.out.drew
        obtain ⟨wo, hwo⟩ : ∃ wo : World, wo = wr.drew := ⟨_, rfl⟩
        rw [← hwo] at hZd hUd hBd ⊢
        clear hwo hZ hU hB r1 r2 hm HMs
        go_loopw [6] (fun i wi => ∃ b n : Nat, i = .int .i64 b ∧ Hid (b = f + n) ∧ b ≤ 256 ∧ Hid (b ≤ t + 1 ∨ n = 0) ∧ Hid (Blk wi w.heap.size 29 zcs) ∧ Hid (Blk wi (w.heap.size + 1) 29 (cset (addN u f n))) ∧ Hid (Below w.heap.size w wi))
          (fun i _ => 300 - (intOf i).toNat)
        case atStart => exact ⟨f, 0, rfl, rfl, by omega, .inr rfl, hZd, hUd, hBd⟩
        case round =>
          clear hZd hUd hBd
          obtain ⟨c, n, rfl, hb, hb2, hn, hZ, hU, hB⟩ := hrel
          have r1 : wr.cell? ⟨b, off + k * 2, none⟩ = some (.int .u8 f) := (hB.out.cell (p := ⟨b, _, none⟩) bl).trans e1
          have r2 : wr.cell? ⟨b, off + k * 2 + 1, none⟩ = some (.int .u8 t) := (hB.out.cell (p := ⟨b, _, none⟩) bl).trans e2
          by_cases hle : c ≤ t
          · have hw : c < 256 := by omega
            have HW := Lib.hid (rwith_any (addN u f n) c hw)
            have HN : Hid (withB (addN u f n) c = addN u f (n + 1)) := by rw [hb.out]; rfl
            obtain ⟨un, hun⟩ : ∃ un, un = addN u f n := ⟨_, rfl⟩
            rw [← hun] at HW HN hU
            clear hun
            rw [HN.out] at HW
            obtain ⟨um, hum⟩ : ∃ um, um = addN u f (n + 1) := ⟨_, rfl⟩
            rw [← hum] at HW
            have HUM := Lib.hid hum
            clear hum HN
            have c0 : wr.cell? ⟨w.heap.size + 1, 0, none⟩ = some (.int .u64 (wdI un 0)) := hU.out.cell 0
            have c1 : wr.cell? ⟨w.heap.size + 1, 1, none⟩ = some (.int .u64 (wdI un 1)) := hU.out.cell 1
            have c2 : wr.cell? ⟨w.heap.size + 1, 2, none⟩ = some (.int .u64 (wdI un 2)) := hU.out.cell 2
            have c3 : wr.cell? ⟨w.heap.size + 1, 3, none⟩ = some (.int .u64 (wdI un 3)) := hU.out.cell 3
            have hlt2 : w.heap.size + 1 < wr.heap.size := hU.out.lt
            go_wp2_with fail
            refine (HW.out wr).mono ?_
            rintro e w1 ⟨rfl, hB1⟩
            have hU1 := Lib.hid (hU.out.below hB1 (by omega))
            have hZ1 := Lib.hid (hZ.out.below hB1 (by omega))
            have hBB := Lib.hid (hB.out.trans (hB1.mono hB.out.size))
            clear hU hZ hB hB1 c0 c1 c2 c3 r1 r2 HW
            have c0 : w1.cell? ⟨w.heap.size + 1, 0, none⟩ = some (.int .u64 (wdI un 0)) := hU1.out.cell 0
            have c1 : w1.cell? ⟨w.heap.size + 1, 1, none⟩ = some (.int .u64 (wdI un 1)) := hU1.out.cell 1
            have c2 : w1.cell? ⟨w.heap.size + 1, 2, none⟩ = some (.int .u64 (wdI un 2)) := hU1.out.cell 2
            have c3 : w1.cell? ⟨w.heap.size + 1, 3, none⟩ = some (.int .u64 (wdI un 3)) := hU1.out.cell 3
            have f0 : ∀ i, w1.frozen? ⟨w.heap.size + 1, i, none⟩ = false := hU1.out.frozen
            unfold vset
            go_wp2
            go_roundw
            case rel =>
              refine ⟨c + 1, n + 1, by go_num, by rw [hb.out]; rfl, by omega, .inl (by omega), ?_, ?_, ?_⟩
              · exact (((hZ1.out.other (by simp) _).other (by simp) _).other (by simp) _).other (by simp) _
              · rw [← HUM.out]; exact hU1.out.set4 _ _ _ _
              · exact below_set4 hBB.out (by omega) _ _ _ _
            case measure => simp [intOf]; omega
          · have hEq : addN u f n = addR u (f, t) := hHR.out n (by have := hb.out; have := hn.out; omega)
            rw [hEq] at hU
            clear hEq
            go_wp2
            go_roundw
            case rel => exact ⟨k + 1, addR u (f, t), by go_num, by omega, HM2, hZ, hU, hB⟩
            case measure => simp [intOf]; omega
    · obtain rfl : k = rs.length := by omega
      have c0 : wr.cell? ⟨(w.heap.size + 1), 0, none⟩ = some (.int .u64 (wdI (u) 0)) := Blk.cell hU.out 0
      have c1 : wr.cell? ⟨(w.heap.size + 1), 1, none⟩ = some (.int .u64 (wdI (u) 1)) := Blk.cell hU.out 1
      have c2 : wr.cell? ⟨(w.heap.size + 1), 2, none⟩ = some (.int .u64 (wdI (u) 2)) := Blk.cell hU.out 2
      have c3 : wr.cell? ⟨(w.heap.size + 1), 3, none⟩ = some (.int .u64 (wdI (u) 3)) := Blk.cell hU.out 3
      have z0 : wr.cell? ⟨w.heap.size, 0, none⟩ = some (.int .u64 0) := Blk.cell hZ.out 0
      have z1 : wr.cell? ⟨w.heap.size, 1, none⟩ = some (.int .u64 0) := Blk.cell hZ.out 1
      have z2 : wr.cell? ⟨w.heap.size, 2, none⟩ = some (.int .u64 0) := Blk.cell hZ.out 2
      have z3 : wr.cell? ⟨w.heap.size, 3, none⟩ = some (.int .u64 0) := Blk.cell hZ.out 3
      have fz : ∀ i, wr.frozen? ⟨w.heap.size, i, none⟩ = false := Blk.frozen hZ.out
      have HV : Hid (makeV rs = .tuple #[.agg #[.int .u64 (wdI u 0), .int .u64 (wdI u 1), .int .u64 (wdI u 2), .int .u64 (wdI u 3)], .int .i64 0]) := by
        have h1 := hm.out
        rw [List.take_length] at h1
        refine Lib.hid ?_
        unfold makeV; rw [h1]; rfl
      go_wp2
      have y := Blk.set4 hZ.out (.int .u64 (wdI (u) 0)) (.int .u64 (wdI (u) 1)) (.int .u64 (wdI (u) 2)) (.int .u64 (wdI (u) 3))
      have y0 := y.cell 0
      have y1 := y.cell 1
      have y2 := y.cell 2
      have y3 := y.cell 3
      refine bodyPost_ret (v := .tuple #[.agg #[.int .u64 (wdI u 0), .int .u64 (wdI u 1), .int .u64 (wdI u 2), .int .u64 (wdI u 3)], .int .i64 0]) (by simp [results, Tryd.results12, go_sem, y0, y1, y2, y3]) rfl ⟨by rw [HV.out], ?_⟩
      exact below_set4 hB.out (Nat.le_refl _) _ _ _ _
end Go.Proofs.YtegmoeeeomjkgaaDoor
