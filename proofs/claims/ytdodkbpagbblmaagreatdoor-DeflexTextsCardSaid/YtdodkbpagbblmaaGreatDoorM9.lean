import Derived.Deep.DeepCutAuto
import Derived.Deep.RegionWith
import Derived.Test.YtdodkbpagbblmaaGreatDoorM6
import Derived.Test.YtdodkbpagbblmaaGreatDoorM7
import Derived.Test.YtdodkbpagbblmaaGreatDoorM8
section
namespace Go.Proofs.YtdodkbpagbblmaaGreatDoor
open Go Go.RowKit

set_option maxRecDepth 100000 in
set_option maxHeartbeats 16000000 in
theorem rread_any (s : ByteArray) (hs : s.size ≤ 5000) (w : World) :
    Calls Tryz.prog 47 #[.string s] w fun e w' => e = .returned (readV (readS s.data.toList)) ∧ Below w.heap.size w w' := by
  have hZ0 := Lib.hid (Blk.new w 33 zcs)
  have hB0 : Hid (Below w.heap.size w (w.alloc (.cells zcs 33))) := (Below.refl _ w).alloc (Nat.le_refl _) _
  by_cases h2 : s.size < 2
  · have HV0 := Lib.hid (readS_short s.data.toList (by rw [← Lib.size_eq]; exact h2))
    have k2 : (s.size : Int) < 2 := by omega
    go_enter Tryz.func47, Tryz.ntmps47
    have hZ := hZ0
    have hB := hB0
    have HV : Hid (readS s.data.toList = none) := HV0
    have z0 : (w.alloc (.cells #[.int .u64 0, .int .u64 0, .int .u64 0, .int .u64 0] 33)).cell? ⟨w.heap.size, 0, none⟩ = some (.int .u64 0) := Blk.cell hZ.out 0
    have z1 : (w.alloc (.cells #[.int .u64 0, .int .u64 0, .int .u64 0, .int .u64 0] 33)).cell? ⟨w.heap.size, 1, none⟩ = some (.int .u64 0) := Blk.cell hZ.out 1
    have z2 : (w.alloc (.cells #[.int .u64 0, .int .u64 0, .int .u64 0, .int .u64 0] 33)).cell? ⟨w.heap.size, 2, none⟩ = some (.int .u64 0) := Blk.cell hZ.out 2
    have z3 : (w.alloc (.cells #[.int .u64 0, .int .u64 0, .int .u64 0, .int .u64 0] 33)).cell? ⟨w.heap.size, 3, none⟩ = some (.int .u64 0) := Blk.cell hZ.out 3
    have fz : ∀ i, (w.alloc (.cells #[.int .u64 0, .int .u64 0, .int .u64 0, .int .u64 0] 33)).frozen? ⟨w.heap.size, i, none⟩ = false := Blk.frozen hZ.out
    clear HV0 h2 hZ0 hB0
    go_wp2
    have y := Blk.set4 hZ.out (.int .u64 0) (.int .u64 0) (.int .u64 0) (.int .u64 0)
    have y0 := y.cell 0
    have y1 := y.cell 1
    have y2 := y.cell 2
    have y3 := y.cell 3
    refine bodyPost_ret (v := .tuple #[.agg #[.int .u64 0, .int .u64 0, .int .u64 0, .int .u64 0], .int .i64 120]) (by simp [results, Tryz.results47, go_sem, y0, y1, y2, y3]) rfl ⟨by rw [HV.out]; rfl, ?_⟩
    first | exact below_set4 hB.out (Nat.le_refl _) _ _ _ _ | exact hB.out
  · have k2 : ¬ (s.size : Int) < 2 := by omega
    have hx0 : 0 < s.size := by omega
    have hx1 : 1 < s.size := by omega
    have hl0 := drop_cons s 0 hx0
    rw [List.drop_zero] at hl0
    by_cases h91 : s[0] = 91
    · obtain ⟨neg, hneg⟩ : ∃ neg, ((s[1].toNat : Int) == 94) = neg := ⟨_, rfl⟩
      obtain ⟨A0, hA0⟩ : ∃ A0, A0 = if s[1] = 94 then 2 else 1 := ⟨_, rfl⟩
      have hl1 := drop_cons s 1 hx1
      rw [Nat.zero_add, hl1, h91] at hl0
      have hnd : (s[1] == 94) = neg := by
        rw [← hneg, Bool.eq_iff_iff, beq_iff_eq, beq_iff_eq]
        constructor
        · intro e; rw [e]; rfl
        · intro e; exact UInt8.toNat_inj.1 (by show s[1].toNat = 94; omega)
      have hRS : readS s.data.toList = restS neg (readItems ((s.data.toList.drop A0).length + 1) 0#256 (s.data.toList.drop A0)) := by
        rw [readS_rest s.data.toList s[1] (s.data.toList.drop (1 + 1)) hl0, hnd, hA0]
      have HA : Hid ((neg = true ∧ A0 = 2) ∨ (neg = false ∧ A0 = 1)) := by
        refine Lib.hid ?_
        rw [hA0, ← hnd]
        by_cases h : s[1] = 94
        · left; simp [h]
        · right; simp [h]
      have hA2 : A0 ≤ 2 := by rcases HA.out with ⟨_, h⟩ | ⟨_, h⟩ <;> omega
      have k91 : ((s[0].toNat : Int) == 91) = true := by rw [h91]; rfl
      obtain ⟨T, hT⟩ : ∃ T, T = readItems ((s.data.toList.drop A0).length + 1) 0#256 (s.data.toList.drop A0) := ⟨_, rfl⟩
      rw [← hT] at hRS
      have HRS := Lib.hid hRS
      have HT := Lib.hid hT
      clear hRS hT hl0 hl1 h91 hA0 hnd h2
      go_enter Tryz.func47, Tryz.ntmps47
      go_upto_if 24 with fail
      go_cut [4] (fun s4 wx => s4 = .int .i64 A0 ∧ wx = w.alloc (.cells zcs 33))
      case first =>
        rcases HA.out with ⟨rfl, rfl⟩ | ⟨rfl, rfl⟩
        · go_wp2_with fail
          go_meet
          exact ⟨rfl, rfl⟩
        · go_wp2_with fail
          go_meet
          exact ⟨rfl, rfl⟩
      case rest =>
        obtain ⟨rfl, rfl⟩ := hcut
        clear hneg
        go_wp2
        have hU0 := Blk.new (w.alloc (.cells zcs 33)) 33 zcs
        rw [World.size_alloc] at hU0
        have hU1 : Hid (Blk ((w.alloc (.cells zcs 33)).alloc (.cells zcs 33)) (w.heap.size + 1) 33 (cset 0#256)) := Lib.hid (by rw [cset_zero]; exact hU0)
        have hZ1 : Hid (Blk ((w.alloc (.cells zcs 33)).alloc (.cells zcs 33)) w.heap.size 33 zcs) := hZ0.out.alloc _
        have hB1 : Hid (Below w.heap.size w ((w.alloc (.cells zcs 33)).alloc (.cells zcs 33))) := hB0.out.alloc (by simp) _
        clear hU0 hZ0 hB0
        go_loopw [4] (fun i wr => ∃ (n : Nat) (u : BS), i = .int .i64 n ∧ n ≤ s.size ∧ Hid (readItems ((s.data.toList.drop n).length + 1) u (s.data.toList.drop n) = T) ∧ Hid (Blk wr w.heap.size 33 zcs) ∧ Hid (Blk wr (w.heap.size + 1) 33 (cset u)) ∧ Hid (Below w.heap.size w wr))
          (fun i _ => s.size - (intOf i).toNat)
        case atStart => exact ⟨A0, 0#256, rfl, by omega, HT.out.symm, hZ1, hU1, hB1⟩
        case round =>
          clear hU1 hZ1 hB1 HT
          obtain ⟨n, u, rfl, hn, hIt, hZ, hU, hB⟩ := hrel
          by_cases hns : n < s.size
          · have hcons := drop_cons s n hns
            by_cases k93 : s[n].toNat = 93
            · have e93 : ((s[n].toNat : Int) == 93) = true := by simp; omega
              have h93 : s[n] = 93 := UInt8.toNat_inj.1 (by show s[n].toNat = 93; omega)
              by_cases hlast : n + 1 = s.size
              · have hTs : T = some u := by
                  rw [← hIt.out, hcons, h93, List.drop_eq_nil_of_le (by rw [← Lib.size_eq]; omega)]
                  exact items_end u
                have q1 : ((n : Int) == (s.size : Int) - 1) = true := by simp; omega
                have HV0 : Hid (readS s.data.toList = restS neg (some u)) := Lib.hid (by rw [HRS.out, hTs])
                clear hTs hIt HRS HA hcons h93 k93
                have c0 : wr.cell? ⟨w.heap.size + 1, 0, none⟩ = some (.int .u64 (wdI u 0)) := hU.out.cell 0
                have c1 : wr.cell? ⟨w.heap.size + 1, 1, none⟩ = some (.int .u64 (wdI u 1)) := hU.out.cell 1
                have c2 : wr.cell? ⟨w.heap.size + 1, 2, none⟩ = some (.int .u64 (wdI u 2)) := hU.out.cell 2
                have c3 : wr.cell? ⟨w.heap.size + 1, 3, none⟩ = some (.int .u64 (wdI u 3)) := hU.out.cell 3
                cases neg with
                | false =>
                  have HV : Hid (readV (readS s.data.toList) = .tuple #[vset u, .int .i64 0]) := Lib.hid (by rw [HV0.out]; rfl)
                  clear HV0
                  have z0 : wr.cell? ⟨w.heap.size, 0, none⟩ = some (.int .u64 0) := Blk.cell hZ.out 0
                  have z1 : wr.cell? ⟨w.heap.size, 1, none⟩ = some (.int .u64 0) := Blk.cell hZ.out 1
                  have z2 : wr.cell? ⟨w.heap.size, 2, none⟩ = some (.int .u64 0) := Blk.cell hZ.out 2
                  have z3 : wr.cell? ⟨w.heap.size, 3, none⟩ = some (.int .u64 0) := Blk.cell hZ.out 3
                  have fz : ∀ i, wr.frozen? ⟨w.heap.size, i, none⟩ = false := Blk.frozen hZ.out
                  go_wp2
                  have y := Blk.set4 hZ.out (.int .u64 (wdI u 0)) (.int .u64 (wdI u 1)) (.int .u64 (wdI u 2)) (.int .u64 (wdI u 3))
                  have y0 := y.cell 0
                  have y1 := y.cell 1
                  have y2 := y.cell 2
                  have y3 := y.cell 3
                  refine bodyPost_ret (v := .tuple #[.agg #[.int .u64 (wdI u 0), .int .u64 (wdI u 1), .int .u64 (wdI u 2), .int .u64 (wdI u 3)], .int .i64 0]) (by simp [results, Tryz.results47, go_sem, y0, y1, y2, y3]) rfl ⟨by rw [HV.out]; rfl, ?_⟩
                  exact below_set4 hB.out (Nat.le_refl _) _ _ _ _
                | true =>
                  have HV : Hid (readV (readS s.data.toList) = .tuple #[vset (~~~u), .int .i64 0]) := Lib.hid (by rw [HV0.out]; rfl)
                  have KN := rnot_any u
                  obtain ⟨nu, hnu⟩ : ∃ nu, nu = ~~~u := ⟨_, rfl⟩
                  rw [← hnu] at HV KN
                  clear HV0 hnu
                  unfold vset at KN
                  have HN := fun w' => Lib.hid (KN w')
                  clear KN
                  go_wp2_with fail
                  refine (HN _).out.mono ?_
                  rintro e w2 ⟨rfl, hB2⟩
                  have hZ2 := hZ.out.below hB2 hZ.out.lt
                  have hU2 := Lib.hid (hU.out.below hB2 hU.out.lt)
                  have hBB := hB.out.trans (hB2.mono hB.out.size)
                  clear hZ hU hB HN c0 c1 c2 c3 hB2
                  have hZ := Lib.hid hZ2
                  have hB := Lib.hid hBB
                  clear hZ2 hBB
                  have c0 : w2.cell? ⟨w.heap.size + 1, 0, none⟩ = some (.int .u64 (wdI u 0)) := hU2.out.cell 0
                  have c1 : w2.cell? ⟨w.heap.size + 1, 1, none⟩ = some (.int .u64 (wdI u 1)) := hU2.out.cell 1
                  have c2 : w2.cell? ⟨w.heap.size + 1, 2, none⟩ = some (.int .u64 (wdI u 2)) := hU2.out.cell 2
                  have c3 : w2.cell? ⟨w.heap.size + 1, 3, none⟩ = some (.int .u64 (wdI u 3)) := hU2.out.cell 3
                  have f1 : ∀ i, w2.frozen? ⟨w.heap.size + 1, i, none⟩ = false := hU2.out.frozen
                  have z0 : w2.cell? ⟨w.heap.size, 0, none⟩ = some (.int .u64 0) := Blk.cell hZ.out 0
                  have z1 : w2.cell? ⟨w.heap.size, 1, none⟩ = some (.int .u64 0) := Blk.cell hZ.out 1
                  have z2 : w2.cell? ⟨w.heap.size, 2, none⟩ = some (.int .u64 0) := Blk.cell hZ.out 2
                  have z3 : w2.cell? ⟨w.heap.size, 3, none⟩ = some (.int .u64 0) := Blk.cell hZ.out 3
                  have fz : ∀ i, w2.frozen? ⟨w.heap.size, i, none⟩ = false := Blk.frozen hZ.out
                  go_wp2
                  have hZ3 := (((Blk.other hZ.out (a := ⟨w.heap.size + 1, 0, none⟩) (by simp) (.int .u64 (wdI nu 0))).other (a := ⟨w.heap.size + 1, 1, none⟩) (by simp) (.int .u64 (wdI nu 1))).other (a := ⟨w.heap.size + 1, 2, none⟩) (by simp) (.int .u64 (wdI nu 2))).other (a := ⟨w.heap.size + 1, 3, none⟩) (by simp) (.int .u64 (wdI nu 3))
                  have y := Blk.set4 hZ3 (.int .u64 (wdI nu 0)) (.int .u64 (wdI nu 1)) (.int .u64 (wdI nu 2)) (.int .u64 (wdI nu 3))
                  have y0 := y.cell 0
                  have y1 := y.cell 1
                  have y2 := y.cell 2
                  have y3 := y.cell 3
                  refine bodyPost_ret (v := .tuple #[.agg #[.int .u64 (wdI nu 0), .int .u64 (wdI nu 1), .int .u64 (wdI nu 2), .int .u64 (wdI nu 3)], .int .i64 0]) (by simp [results, Tryz.results47, go_sem, y0, y1, y2, y3]) rfl ⟨by rw [HV.out]; rfl, ?_⟩
                  exact below_set4 (below_set4 hB.out (by omega) _ _ _ _) (Nat.le_refl _) _ _ _ _
              · have hTn : T = none := by
                  rw [← hIt.out, hcons, h93]
                  have hne : s.data.toList.drop (n + 1) ≠ [] := by
                    intro e
                    have := congrArg List.length e
                    rw [List.length_drop, ← Lib.size_eq] at this
                    simp at this
                    omega
                  refine items_bad _ u (by simpa using hne) (item_none _ (by rw [byteB_93]))
                have q1 : ((n : Int) == (s.size : Int) - 1) = false := by simp; omega
                have HV0 : Hid (readS s.data.toList = none) := Lib.hid (by rw [HRS.out, hTn]; cases neg <;> rfl)
                clear hTn hIt HRS hU HA hcons h93 k93
                have HV : Hid (readS s.data.toList = none) := HV0
                have z0 : wr.cell? ⟨w.heap.size, 0, none⟩ = some (.int .u64 0) := Blk.cell hZ.out 0
                have z1 : wr.cell? ⟨w.heap.size, 1, none⟩ = some (.int .u64 0) := Blk.cell hZ.out 1
                have z2 : wr.cell? ⟨w.heap.size, 2, none⟩ = some (.int .u64 0) := Blk.cell hZ.out 2
                have z3 : wr.cell? ⟨w.heap.size, 3, none⟩ = some (.int .u64 0) := Blk.cell hZ.out 3
                have fz : ∀ i, wr.frozen? ⟨w.heap.size, i, none⟩ = false := Blk.frozen hZ.out
                clear HV0
                go_wp2
                have y := Blk.set4 hZ.out (.int .u64 0) (.int .u64 0) (.int .u64 0) (.int .u64 0)
                have y0 := y.cell 0
                have y1 := y.cell 1
                have y2 := y.cell 2
                have y3 := y.cell 3
                refine bodyPost_ret (v := .tuple #[.agg #[.int .u64 0, .int .u64 0, .int .u64 0, .int .u64 0], .int .i64 120]) (by simp [results, Tryz.results47, go_sem, y0, y1, y2, y3]) rfl ⟨by rw [HV.out]; rfl, ?_⟩
                first | exact below_set4 hB.out (Nat.le_refl _) _ _ _ _ | exact hB.out
            · have e93 : ((s[n].toNat : Int) == 93) = false := by simp; omega
              have hne : s.data.toList.drop n ≠ [93] := by
                rw [hcons]
                intro e
                have h := (List.cons.inj e).1
                exact k93 (by rw [h]; rfl)
              obtain ⟨b1, k1, hbk⟩ : ∃ b1 k1, byteB (s.data.toList.drop n) = (b1, k1) := ⟨_, _, rfl⟩
              have hblt := byteB_lt (s.data.toList.drop n)
              rw [hbk, List.length_drop, ← Lib.size_eq] at hblt
              obtain ⟨hb1, hk1⟩ := hblt
              dsimp only at hb1 hk1
              have HBy0 := rbyte_any s n hn hs
              by_cases hk0 : k1 = 0
              · have hTn : T = none := by
                  rw [← hIt.out]
                  exact items_bad _ u hne (item_none _ (by rw [hbk]; exact hk0))
                have hV1 : rbyteV s.data.toList n = .tuple #[.int .i64 (-1), .int .i64 n] := by
                  unfold rbyteV; rw [hbk, if_pos hk0]
                rw [hV1] at HBy0
                have HBy := fun w' => Lib.hid (HBy0 w')
                have HV0 : Hid (readS s.data.toList = none) := Lib.hid (by rw [HRS.out, hTn]; cases neg <;> rfl)
                clear hTn hIt HRS hcons k93 hne hbk hV1 HBy0 HA
                go_wp2_with fail
                refine (HBy _).out.mono ?_
                rintro e w1 ⟨rfl, hBc⟩
                have hZn := hZ.out.below hBc hZ.out.lt
                have hUn := hU.out.below hBc hU.out.lt
                have hBn := hB.out.trans (hBc.mono hB.out.size)
                clear hZ hU hB hBc
                have hZ := Lib.hid hZn
                have hU := Lib.hid hUn
                have hB := Lib.hid hBn
                clear hZn hUn hBn
                have HV : Hid (readS s.data.toList = none) := HV0
                have z0 : w1.cell? ⟨w.heap.size, 0, none⟩ = some (.int .u64 0) := Blk.cell hZ.out 0
                have z1 : w1.cell? ⟨w.heap.size, 1, none⟩ = some (.int .u64 0) := Blk.cell hZ.out 1
                have z2 : w1.cell? ⟨w.heap.size, 2, none⟩ = some (.int .u64 0) := Blk.cell hZ.out 2
                have z3 : w1.cell? ⟨w.heap.size, 3, none⟩ = some (.int .u64 0) := Blk.cell hZ.out 3
                have fz : ∀ i, w1.frozen? ⟨w.heap.size, i, none⟩ = false := Blk.frozen hZ.out
                clear HV0 HBy
                go_wp2
                have y := Blk.set4 hZ.out (.int .u64 0) (.int .u64 0) (.int .u64 0) (.int .u64 0)
                have y0 := y.cell 0
                have y1 := y.cell 1
                have y2 := y.cell 2
                have y3 := y.cell 3
                refine bodyPost_ret (v := .tuple #[.agg #[.int .u64 0, .int .u64 0, .int .u64 0, .int .u64 0], .int .i64 120]) (by simp [results, Tryz.results47, go_sem, y0, y1, y2, y3]) rfl ⟨by rw [HV.out]; rfl, ?_⟩
                first | exact below_set4 hB.out (Nat.le_refl _) _ _ _ _ | exact hB.out

              · have hV1 : rbyteV s.data.toList n = .tuple #[.int .i64 b1, .int .i64 ((n + k1 : Nat) : Int)] := by
                  unfold rbyteV; rw [hbk, if_neg hk0]
                rw [hV1] at HBy0
                have HBy := fun w' => Lib.hid (HBy0 w')
                have hdd : (s.data.toList.drop n).drop k1 = s.data.toList.drop (n + k1) := by rw [List.drop_drop]
                clear hV1 HBy0
                obtain ⟨P, hP⟩ : ∃ P, P = n + k1 := ⟨_, rfl⟩
                rw [← hP] at HBy hdd
                have hPs : P ≤ s.size := by omega
                have hPn : n < P := by omega
                have HP := Lib.hid hP
                clear hP
                by_cases hPl : P < s.size
                · have hPc := drop_cons s P hPl
                  by_cases k45 : s[P].toNat = 45
                  · have e45 : ((s[P].toNat : Int) == 45) = true := by simp; omega
                    have hpre : Lib.hasPrefix ((s.data.toList.drop n).drop k1) [45] = true := by
                      rw [hdd, hPc, pre1_cons, beq_iff_eq]
                      exact UInt8.toNat_inj.1 (by show s[P].toNat = 45; omega)
                    obtain ⟨b2, k2, hbk2⟩ : ∃ b2 k2, byteB (s.data.toList.drop (P + 1)) = (b2, k2) := ⟨_, _, rfl⟩
                    have hblt2 := byteB_lt (s.data.toList.drop (P + 1))
                    rw [hbk2, List.length_drop, ← Lib.size_eq] at hblt2
                    obtain ⟨hb2, hk2⟩ := hblt2
                    dsimp only at hb2 hk2
                    have hdd2 : (s.data.toList.drop n).drop (k1 + 1) = s.data.toList.drop (P + 1) := by rw [List.drop_drop, HP.out, Nat.add_assoc]
                    have HBz0 := rbyte_any s (P + 1) (by omega) hs
                    by_cases hk20 : k2 = 0
                    · have hTn : T = none := by
                        rw [← hIt.out]
                        exact items_bad _ u hne (item_wrong _ (by rw [hbk]; exact hk0) (by rw [hbk]; exact hpre) (.inl (by rw [hbk, hdd2, hbk2]; exact hk20)))
                      have hV1 : rbyteV s.data.toList (P + 1) = .tuple #[.int .i64 (-1), .int .i64 ((P + 1 : Nat) : Int)] := by
                        unfold rbyteV; rw [hbk2, if_pos hk20]
                      rw [hV1] at HBz0
                      have HBz := fun w' => Lib.hid (HBz0 w')
                      have HV0 : Hid (readS s.data.toList = none) := Lib.hid (by rw [HRS.out, hTn]; cases neg <;> rfl)
                      clear hTn hIt HRS hcons k93 hne hbk hV1 HBz0 HA hbk2 hdd hdd2 hpre hPc k45
                      go_wp2_with fail
                      refine (HBy _).out.mono ?_
                      rintro e w1 ⟨rfl, hBc⟩
                      have hZn := hZ.out.below hBc hZ.out.lt
                      have hUn := hU.out.below hBc hU.out.lt
                      have hBn := hB.out.trans (hBc.mono hB.out.size)
                      clear hZ hU hB hBc
                      have hZ := Lib.hid hZn
                      have hU := Lib.hid hUn
                      have hB := Lib.hid hBn
                      clear hZn hUn hBn

                      clear HBy
                      go_wp2_with fail
                      refine (HBz _).out.mono ?_
                      rintro e w2 ⟨rfl, hBc⟩
                      have hZn := hZ.out.below hBc hZ.out.lt
                      have hUn := hU.out.below hBc hU.out.lt
                      have hBn := hB.out.trans (hBc.mono hB.out.size)
                      clear hZ hU hB hBc
                      have hZ := Lib.hid hZn
                      have hU := Lib.hid hUn
                      have hB := Lib.hid hBn
                      clear hZn hUn hBn
                      have HV : Hid (readS s.data.toList = none) := HV0
                      have z0 : w2.cell? ⟨w.heap.size, 0, none⟩ = some (.int .u64 0) := Blk.cell hZ.out 0
                      have z1 : w2.cell? ⟨w.heap.size, 1, none⟩ = some (.int .u64 0) := Blk.cell hZ.out 1
                      have z2 : w2.cell? ⟨w.heap.size, 2, none⟩ = some (.int .u64 0) := Blk.cell hZ.out 2
                      have z3 : w2.cell? ⟨w.heap.size, 3, none⟩ = some (.int .u64 0) := Blk.cell hZ.out 3
                      have fz : ∀ i, w2.frozen? ⟨w.heap.size, i, none⟩ = false := Blk.frozen hZ.out
                      clear HV0 HBz
                      go_wp2
                      have y := Blk.set4 hZ.out (.int .u64 0) (.int .u64 0) (.int .u64 0) (.int .u64 0)
                      have y0 := y.cell 0
                      have y1 := y.cell 1
                      have y2 := y.cell 2
                      have y3 := y.cell 3
                      refine bodyPost_ret (v := .tuple #[.agg #[.int .u64 0, .int .u64 0, .int .u64 0, .int .u64 0], .int .i64 120]) (by simp [results, Tryz.results47, go_sem, y0, y1, y2, y3]) rfl ⟨by rw [HV.out]; rfl, ?_⟩
                      first | exact below_set4 hB.out (Nat.le_refl _) _ _ _ _ | exact hB.out

                    · have hV1 : rbyteV s.data.toList (P + 1) = .tuple #[.int .i64 b2, .int .i64 ((P + 1 + k2 : Nat) : Int)] := by
                        unfold rbyteV; rw [hbk2, if_neg hk20]
                      rw [hV1] at HBz0
                      have HBz := fun w' => Lib.hid (HBz0 w')
                      obtain ⟨P2, hP2⟩ : ∃ P2, P2 = P + 1 + k2 := ⟨_, rfl⟩
                      rw [← hP2] at HBz
                      have hP2s : P2 ≤ s.size := by omega
                      have hP2n : n < P2 := by omega
                      have HP2 := Lib.hid hP2
                      clear hP2 hV1 HBz0
                      by_cases hlow : b2 < b1
                      · have hTn : T = none := by
                          rw [← hIt.out]
                          exact items_bad _ u hne (item_wrong _ (by rw [hbk]; exact hk0) (by rw [hbk]; exact hpre) (.inr (by rw [hbk, hdd2, hbk2]; exact hlow)))
                        have HV0 : Hid (readS s.data.toList = none) := Lib.hid (by rw [HRS.out, hTn]; cases neg <;> rfl)
                        clear hTn hIt HRS hcons k93 hne hbk HA hbk2 hdd hdd2 hpre hPc k45
                        go_wp2_with fail
                        refine (HBy _).out.mono ?_
                        rintro e w1 ⟨rfl, hBc⟩
                        have hZn := hZ.out.below hBc hZ.out.lt
                        have hUn := hU.out.below hBc hU.out.lt
                        have hBn := hB.out.trans (hBc.mono hB.out.size)
                        clear hZ hU hB hBc
                        have hZ := Lib.hid hZn
                        have hU := Lib.hid hUn
                        have hB := Lib.hid hBn
                        clear hZn hUn hBn

                        clear HBy
                        go_wp2_with fail
                        refine (HBz _).out.mono ?_
                        rintro e w2 ⟨rfl, hBc⟩
                        have hZn := hZ.out.below hBc hZ.out.lt
                        have hUn := hU.out.below hBc hU.out.lt
                        have hBn := hB.out.trans (hBc.mono hB.out.size)
                        clear hZ hU hB hBc
                        have hZ := Lib.hid hZn
                        have hU := Lib.hid hUn
                        have hB := Lib.hid hBn
                        clear hZn hUn hBn
                        have HV : Hid (readS s.data.toList = none) := HV0
                        have z0 : w2.cell? ⟨w.heap.size, 0, none⟩ = some (.int .u64 0) := Blk.cell hZ.out 0
                        have z1 : w2.cell? ⟨w.heap.size, 1, none⟩ = some (.int .u64 0) := Blk.cell hZ.out 1
                        have z2 : w2.cell? ⟨w.heap.size, 2, none⟩ = some (.int .u64 0) := Blk.cell hZ.out 2
                        have z3 : w2.cell? ⟨w.heap.size, 3, none⟩ = some (.int .u64 0) := Blk.cell hZ.out 3
                        have fz : ∀ i, w2.frozen? ⟨w.heap.size, i, none⟩ = false := Blk.frozen hZ.out
                        clear HV0 HBz
                        go_wp2
                        have y := Blk.set4 hZ.out (.int .u64 0) (.int .u64 0) (.int .u64 0) (.int .u64 0)
                        have y0 := y.cell 0
                        have y1 := y.cell 1
                        have y2 := y.cell 2
                        have y3 := y.cell 3
                        refine bodyPost_ret (v := .tuple #[.agg #[.int .u64 0, .int .u64 0, .int .u64 0, .int .u64 0], .int .i64 120]) (by simp [results, Tryz.results47, go_sem, y0, y1, y2, y3]) rfl ⟨by rw [HV.out]; rfl, ?_⟩
                        first | exact below_set4 hB.out (Nat.le_refl _) _ _ _ _ | exact hB.out

                      · have hit := item_two (s.data.toList.drop n) (by rw [hbk]; exact hk0) (by rw [hbk]; exact hpre) (by rw [hbk, hdd2, hbk2]; exact hk20) (by rw [hbk, hdd2, hbk2]; exact hlow)
                        rw [hbk] at hit
                        dsimp only at hit
                        rw [hdd2, hbk2] at hit
                        have HNext : Hid (readItems ((s.data.toList.drop P2).length + 1) (addR u (b1, b2)) (s.data.toList.drop P2) = T) := by
                          refine Lib.hid ?_
                          have h := items_step (s.data.toList.drop n) u hne (by rw [hit]; simp)
                          rw [hit] at h
                          dsimp only at h
                          have hd3 : (s.data.toList.drop n).drop (k1 + 1 + k2) = s.data.toList.drop P2 := by
                            rw [List.drop_drop, HP2.out, HP.out]; congr 1; omega
                          rw [hd3, hIt.out] at h
                          exact h.symm
                        clear hit hpre hdd hdd2 hbk hbk2 hIt hne hcons k93 hPc k45
                        go_wp2_with fail
                        refine (HBy _).out.mono ?_
                        rintro e w1 ⟨rfl, hBc⟩
                        have hZn := hZ.out.below hBc hZ.out.lt
                        have hUn := hU.out.below hBc hU.out.lt
                        have hBn := hB.out.trans (hBc.mono hB.out.size)
                        clear hZ hU hB hBc
                        have hZ := Lib.hid hZn
                        have hU := Lib.hid hUn
                        have hB := Lib.hid hBn
                        clear hZn hUn hBn

                        clear HBy
                        go_wp2_with fail
                        refine (HBz _).out.mono ?_
                        rintro e w2 ⟨rfl, hBc⟩
                        have hZn := hZ.out.below hBc hZ.out.lt
                        have hUn := hU.out.below hBc hU.out.lt
                        have hBn := hB.out.trans (hBc.mono hB.out.size)
                        clear hZ hU hB hBc
                        have hZ := Lib.hid hZn
                        have hU := Lib.hid hUn
                        have hB := Lib.hid hBn
                        clear hZn hUn hBn

                        clear HBz
                        go_wp2
                        obtain ⟨wo, hwo⟩ : ∃ wo : World, wo = w2 := ⟨_, rfl⟩
                        rw [← hwo] at hZ hU hB ⊢
                        clear hwo
                        go_loopw [10] (fun i wi => ∃ c m : Nat, i = .int .i64 c ∧ Hid (c = b1 + m) ∧ c ≤ 256 ∧ Hid (c ≤ b2 + 1 ∨ m = 0) ∧ Hid (Blk wi w.heap.size 33 zcs) ∧ Hid (Blk wi (w.heap.size + 1) 33 (cset (addN u b1 m))) ∧ Hid (Below w.heap.size w wi))
                          (fun i _ => 300 - (intOf i).toNat)
                        case atStart => exact ⟨b1, 0, rfl, rfl, by omega, .inr rfl, hZ, hU, hB⟩
                        case round =>
                          clear hZ hU hB
                          obtain ⟨c, m, rfl, hb, hb2, hm, hZ, hU, hB⟩ := hrel
                          by_cases hle : c ≤ b2
                          · have hw : c < 256 := by omega
                            have HW0 := rwith_any (addN u b1 m) c hw
                            have HN : Hid (withB (addN u b1 m) c = addN u b1 (m + 1)) := by rw [hb.out]; rfl
                            obtain ⟨un, hun⟩ : ∃ un, un = addN u b1 m := ⟨_, rfl⟩
                            rw [← hun] at HW0 HN hU
                            clear hun
                            rw [HN.out] at HW0
                            obtain ⟨um, hum⟩ : ∃ um, um = addN u b1 (m + 1) := ⟨_, rfl⟩
                            rw [← hum] at HW0
                            have HUM := Lib.hid hum
                            clear hum HN
                            unfold vset at HW0
                            have HW := fun w' => Lib.hid (HW0 w')
                            clear HW0
                            have c0 : wr.cell? ⟨w.heap.size + 1, 0, none⟩ = some (.int .u64 (wdI un 0)) := hU.out.cell 0
                            have c1 : wr.cell? ⟨w.heap.size + 1, 1, none⟩ = some (.int .u64 (wdI un 1)) := hU.out.cell 1
                            have c2 : wr.cell? ⟨w.heap.size + 1, 2, none⟩ = some (.int .u64 (wdI un 2)) := hU.out.cell 2
                            have c3 : wr.cell? ⟨w.heap.size + 1, 3, none⟩ = some (.int .u64 (wdI un 3)) := hU.out.cell 3
                            have hlt2 : w.heap.size + 1 < wr.heap.size := hU.out.lt
                            go_wp2_with fail
                            refine (HW _).out.mono ?_
                            rintro e w1 ⟨rfl, hB1⟩
                            have hU1 := Lib.hid (hU.out.below hB1 (by omega))
                            have hZ1 := Lib.hid (hZ.out.below hB1 (by omega))
                            have hBB := Lib.hid (hB.out.trans (hB1.mono hB.out.size))
                            clear hU hZ hB hB1 c0 c1 c2 c3 HW
                            have c0 : w1.cell? ⟨w.heap.size + 1, 0, none⟩ = some (.int .u64 (wdI un 0)) := hU1.out.cell 0
                            have c1 : w1.cell? ⟨w.heap.size + 1, 1, none⟩ = some (.int .u64 (wdI un 1)) := hU1.out.cell 1
                            have c2 : w1.cell? ⟨w.heap.size + 1, 2, none⟩ = some (.int .u64 (wdI un 2)) := hU1.out.cell 2
                            have c3 : w1.cell? ⟨w.heap.size + 1, 3, none⟩ = some (.int .u64 (wdI un 3)) := hU1.out.cell 3
                            have f0 : ∀ i, w1.frozen? ⟨w.heap.size + 1, i, none⟩ = false := hU1.out.frozen
                            go_wp2
                            go_roundw
                            case rel =>
                              refine ⟨c + 1, m + 1, by go_num, by rw [hb.out]; rfl, by omega, .inl (by omega), ?_, ?_, ?_⟩
                              · exact (((hZ1.out.other (by simp) _).other (by simp) _).other (by simp) _).other (by simp) _
                              · rw [← HUM.out]; exact hU1.out.set4 _ _ _ _
                              · exact below_set4 hBB.out (by omega) _ _ _ _
                            case measure => simp [intOf]; omega
                          · have hEq : addN u b1 m = addR u (b1, b2) := by
                              have h1 := hb.out
                              have h2 := hm.out
                              unfold addR
                              congr 1
                              dsimp only
                              omega
                            rw [hEq] at hU
                            clear hEq hb hm hb2
                            go_wp2
                            go_roundw
                            case rel => exact ⟨P2, addR u (b1, b2), by go_num, by omega, HNext, hZ, hU, hB⟩
                            case measure => simp [intOf]; omega
                  · have e45 : ((s[P].toNat : Int) == 45) = false := by simp; omega
                    have hpre : Lib.hasPrefix ((s.data.toList.drop n).drop k1) [45] = false := by
                      rw [hdd, hPc, pre1_cons, beq_eq_false_iff_ne]
                      intro e; exact k45 (by rw [e]; rfl)
                    have hit := item_one (s.data.toList.drop n) (by rw [hbk]; exact hk0) (by rw [hbk]; exact hpre)
                    rw [hbk] at hit
                    have HNext : Hid (readItems ((s.data.toList.drop P).length + 1) (addR u (b1, b1)) (s.data.toList.drop P) = T) := by
                      refine Lib.hid ?_
                      have h := items_step (s.data.toList.drop n) u hne (by rw [hit]; exact hk0)
                      rw [hit] at h
                      dsimp only at h
                      rw [hdd, hIt.out] at h
                      exact h.symm
                    clear hit hpre hdd hbk hIt hne hcons k93
                    go_wp2_with fail
                    refine (HBy _).out.mono ?_
                    rintro e w1 ⟨rfl, hBc⟩

                    have hZn := hZ.out.below hBc hZ.out.lt
                    have hUn := hU.out.below hBc hU.out.lt
                    have hBn := hB.out.trans (hBc.mono hB.out.size)
                    clear hZ hU hB hBc
                    have hZ := Lib.hid hZn
                    have hU := Lib.hid hUn
                    have hB := Lib.hid hBn
                    clear hZn hUn hBn

                    clear HBy
                    go_wp2

                    obtain ⟨wo, hwo⟩ : ∃ wo : World, wo = w1 := ⟨_, rfl⟩
                    rw [← hwo] at hZ hU hB ⊢
                    clear hwo
                    go_loopw [10] (fun i wi => ∃ c m : Nat, i = .int .i64 c ∧ Hid (c = b1 + m) ∧ c ≤ 256 ∧ Hid (c ≤ b1 + 1 ∨ m = 0) ∧ Hid (Blk wi w.heap.size 33 zcs) ∧ Hid (Blk wi (w.heap.size + 1) 33 (cset (addN u b1 m))) ∧ Hid (Below w.heap.size w wi))
                      (fun i _ => 300 - (intOf i).toNat)
                    case atStart => exact ⟨b1, 0, rfl, rfl, by omega, .inr rfl, hZ, hU, hB⟩
                    case round =>
                      clear hZ hU hB
                      obtain ⟨c, m, rfl, hb, hb2, hm, hZ, hU, hB⟩ := hrel
                      by_cases hle : c ≤ b1
                      · have hw : c < 256 := by omega
                        have HW0 := rwith_any (addN u b1 m) c hw
                        have HN : Hid (withB (addN u b1 m) c = addN u b1 (m + 1)) := by rw [hb.out]; rfl
                        obtain ⟨un, hun⟩ : ∃ un, un = addN u b1 m := ⟨_, rfl⟩
                        rw [← hun] at HW0 HN hU
                        clear hun
                        rw [HN.out] at HW0
                        obtain ⟨um, hum⟩ : ∃ um, um = addN u b1 (m + 1) := ⟨_, rfl⟩
                        rw [← hum] at HW0
                        have HUM := Lib.hid hum
                        clear hum HN
                        unfold vset at HW0
                        have HW := fun w' => Lib.hid (HW0 w')
                        clear HW0
                        have c0 : wr.cell? ⟨w.heap.size + 1, 0, none⟩ = some (.int .u64 (wdI un 0)) := hU.out.cell 0
                        have c1 : wr.cell? ⟨w.heap.size + 1, 1, none⟩ = some (.int .u64 (wdI un 1)) := hU.out.cell 1
                        have c2 : wr.cell? ⟨w.heap.size + 1, 2, none⟩ = some (.int .u64 (wdI un 2)) := hU.out.cell 2
                        have c3 : wr.cell? ⟨w.heap.size + 1, 3, none⟩ = some (.int .u64 (wdI un 3)) := hU.out.cell 3
                        have hlt2 : w.heap.size + 1 < wr.heap.size := hU.out.lt
                        go_wp2_with fail
                        refine (HW _).out.mono ?_
                        rintro e w1 ⟨rfl, hB1⟩
                        have hU1 := Lib.hid (hU.out.below hB1 (by omega))
                        have hZ1 := Lib.hid (hZ.out.below hB1 (by omega))
                        have hBB := Lib.hid (hB.out.trans (hB1.mono hB.out.size))
                        clear hU hZ hB hB1 c0 c1 c2 c3 HW
                        have c0 : w1.cell? ⟨w.heap.size + 1, 0, none⟩ = some (.int .u64 (wdI un 0)) := hU1.out.cell 0
                        have c1 : w1.cell? ⟨w.heap.size + 1, 1, none⟩ = some (.int .u64 (wdI un 1)) := hU1.out.cell 1
                        have c2 : w1.cell? ⟨w.heap.size + 1, 2, none⟩ = some (.int .u64 (wdI un 2)) := hU1.out.cell 2
                        have c3 : w1.cell? ⟨w.heap.size + 1, 3, none⟩ = some (.int .u64 (wdI un 3)) := hU1.out.cell 3
                        have f0 : ∀ i, w1.frozen? ⟨w.heap.size + 1, i, none⟩ = false := hU1.out.frozen
                        go_wp2
                        go_roundw
                        case rel =>
                          refine ⟨c + 1, m + 1, by go_num, by rw [hb.out]; rfl, by omega, .inl (by omega), ?_, ?_, ?_⟩
                          · exact (((hZ1.out.other (by simp) _).other (by simp) _).other (by simp) _).other (by simp) _
                          · rw [← HUM.out]; exact hU1.out.set4 _ _ _ _
                          · exact below_set4 hBB.out (by omega) _ _ _ _
                        case measure => simp [intOf]; omega
                      · have hEq : addN u b1 m = addR u (b1, b1) := by
                          have h1 := hb.out
                          have h2 := hm.out
                          unfold addR
                          congr 1
                          dsimp only
                          omega
                        rw [hEq] at hU
                        clear hEq hb hm hb2
                        go_wp2
                        go_roundw
                        case rel => exact ⟨P, addR u (b1, b1), by go_num, by omega, HNext, hZ, hU, hB⟩
                        case measure => simp [intOf]; omega
                · have q7 : ¬ (P : Int) < (s.size : Int) := by omega
                  have hpre : Lib.hasPrefix ((s.data.toList.drop n).drop k1) [45] = false := by
                    rw [hdd, List.drop_eq_nil_of_le (by rw [← Lib.size_eq]; omega)]; rfl
                  have hit := item_one (s.data.toList.drop n) (by rw [hbk]; exact hk0) (by rw [hbk]; exact hpre)
                  rw [hbk] at hit
                  have HNext : Hid (readItems ((s.data.toList.drop P).length + 1) (addR u (b1, b1)) (s.data.toList.drop P) = T) := by
                    refine Lib.hid ?_
                    have h := items_step (s.data.toList.drop n) u hne (by rw [hit]; exact hk0)
                    rw [hit] at h
                    dsimp only at h
                    rw [hdd, hIt.out] at h
                    exact h.symm
                  clear hit hpre hdd hbk hIt hne hcons k93
                  go_wp2_with fail
                  refine (HBy _).out.mono ?_
                  rintro e w1 ⟨rfl, hBc⟩

                  have hZn := hZ.out.below hBc hZ.out.lt
                  have hUn := hU.out.below hBc hU.out.lt
                  have hBn := hB.out.trans (hBc.mono hB.out.size)
                  clear hZ hU hB hBc
                  have hZ := Lib.hid hZn
                  have hU := Lib.hid hUn
                  have hB := Lib.hid hBn
                  clear hZn hUn hBn

                  clear HBy
                  go_wp2

                  obtain ⟨wo, hwo⟩ : ∃ wo : World, wo = w1 := ⟨_, rfl⟩
                  rw [← hwo] at hZ hU hB ⊢
                  clear hwo
                  go_loopw [10] (fun i wi => ∃ c m : Nat, i = .int .i64 c ∧ Hid (c = b1 + m) ∧ c ≤ 256 ∧ Hid (c ≤ b1 + 1 ∨ m = 0) ∧ Hid (Blk wi w.heap.size 33 zcs) ∧ Hid (Blk wi (w.heap.size + 1) 33 (cset (addN u b1 m))) ∧ Hid (Below w.heap.size w wi))
                    (fun i _ => 300 - (intOf i).toNat)
                  case atStart => exact ⟨b1, 0, rfl, rfl, by omega, .inr rfl, hZ, hU, hB⟩
                  case round =>
                    clear hZ hU hB
                    obtain ⟨c, m, rfl, hb, hb2, hm, hZ, hU, hB⟩ := hrel
                    by_cases hle : c ≤ b1
                    · have hw : c < 256 := by omega
                      have HW0 := rwith_any (addN u b1 m) c hw
                      have HN : Hid (withB (addN u b1 m) c = addN u b1 (m + 1)) := by rw [hb.out]; rfl
                      obtain ⟨un, hun⟩ : ∃ un, un = addN u b1 m := ⟨_, rfl⟩
                      rw [← hun] at HW0 HN hU
                      clear hun
                      rw [HN.out] at HW0
                      obtain ⟨um, hum⟩ : ∃ um, um = addN u b1 (m + 1) := ⟨_, rfl⟩
                      rw [← hum] at HW0
                      have HUM := Lib.hid hum
                      clear hum HN
                      unfold vset at HW0
                      have HW := fun w' => Lib.hid (HW0 w')
                      clear HW0
                      have c0 : wr.cell? ⟨w.heap.size + 1, 0, none⟩ = some (.int .u64 (wdI un 0)) := hU.out.cell 0
                      have c1 : wr.cell? ⟨w.heap.size + 1, 1, none⟩ = some (.int .u64 (wdI un 1)) := hU.out.cell 1
                      have c2 : wr.cell? ⟨w.heap.size + 1, 2, none⟩ = some (.int .u64 (wdI un 2)) := hU.out.cell 2
                      have c3 : wr.cell? ⟨w.heap.size + 1, 3, none⟩ = some (.int .u64 (wdI un 3)) := hU.out.cell 3
                      have hlt2 : w.heap.size + 1 < wr.heap.size := hU.out.lt
                      go_wp2_with fail
                      refine (HW _).out.mono ?_
                      rintro e w1 ⟨rfl, hB1⟩
                      have hU1 := Lib.hid (hU.out.below hB1 (by omega))
                      have hZ1 := Lib.hid (hZ.out.below hB1 (by omega))
                      have hBB := Lib.hid (hB.out.trans (hB1.mono hB.out.size))
                      clear hU hZ hB hB1 c0 c1 c2 c3 HW
                      have c0 : w1.cell? ⟨w.heap.size + 1, 0, none⟩ = some (.int .u64 (wdI un 0)) := hU1.out.cell 0
                      have c1 : w1.cell? ⟨w.heap.size + 1, 1, none⟩ = some (.int .u64 (wdI un 1)) := hU1.out.cell 1
                      have c2 : w1.cell? ⟨w.heap.size + 1, 2, none⟩ = some (.int .u64 (wdI un 2)) := hU1.out.cell 2
                      have c3 : w1.cell? ⟨w.heap.size + 1, 3, none⟩ = some (.int .u64 (wdI un 3)) := hU1.out.cell 3
                      have f0 : ∀ i, w1.frozen? ⟨w.heap.size + 1, i, none⟩ = false := hU1.out.frozen
                      go_wp2
                      go_roundw
                      case rel =>
                        refine ⟨c + 1, m + 1, by go_num, by rw [hb.out]; rfl, by omega, .inl (by omega), ?_, ?_, ?_⟩
                        · exact (((hZ1.out.other (by simp) _).other (by simp) _).other (by simp) _).other (by simp) _
                        · rw [← HUM.out]; exact hU1.out.set4 _ _ _ _
                        · exact below_set4 hBB.out (by omega) _ _ _ _
                      case measure => simp [intOf]; omega
                    · have hEq : addN u b1 m = addR u (b1, b1) := by
                        have h1 := hb.out
                        have h2 := hm.out
                        unfold addR
                        congr 1
                        dsimp only
                        omega
                      rw [hEq] at hU
                      clear hEq hb hm hb2
                      go_wp2
                      go_roundw
                      case rel => exact ⟨P, addR u (b1, b1), by go_num, by omega, HNext, hZ, hU, hB⟩
                      case measure => simp [intOf]; omega
          · have hTn : T = none := by
              rw [← hIt.out, List.drop_eq_nil_of_le (by rw [← Lib.size_eq]; omega)]
              exact items_bad [] u (by simp) rfl
            have q1 : ((n : Int) == (s.size : Int) - 1) = false := by simp; omega
            have HV0 : Hid (readS s.data.toList = none) := Lib.hid (by rw [HRS.out, hTn]; cases neg <;> rfl)
            clear hTn hIt HRS hU HA

            have HV : Hid (readS s.data.toList = none) := HV0
            have z0 : wr.cell? ⟨w.heap.size, 0, none⟩ = some (.int .u64 0) := Blk.cell hZ.out 0
            have z1 : wr.cell? ⟨w.heap.size, 1, none⟩ = some (.int .u64 0) := Blk.cell hZ.out 1
            have z2 : wr.cell? ⟨w.heap.size, 2, none⟩ = some (.int .u64 0) := Blk.cell hZ.out 2
            have z3 : wr.cell? ⟨w.heap.size, 3, none⟩ = some (.int .u64 0) := Blk.cell hZ.out 3
            have fz : ∀ i, wr.frozen? ⟨w.heap.size, i, none⟩ = false := Blk.frozen hZ.out
            clear HV0
            go_wp2
            have y := Blk.set4 hZ.out (.int .u64 0) (.int .u64 0) (.int .u64 0) (.int .u64 0)
            have y0 := y.cell 0
            have y1 := y.cell 1
            have y2 := y.cell 2
            have y3 := y.cell 3
            refine bodyPost_ret (v := .tuple #[.agg #[.int .u64 0, .int .u64 0, .int .u64 0, .int .u64 0], .int .i64 120]) (by simp [results, Tryz.results47, go_sem, y0, y1, y2, y3]) rfl ⟨by rw [HV.out]; rfl, ?_⟩
            first | exact below_set4 hB.out (Nat.le_refl _) _ _ _ _ | exact hB.out
    · have HV0 := Lib.hid (readS_head _ _ _ hl0 h91)
      have k91 : ((s[0].toNat : Int) == 91) = false := by
        rw [beq_eq_false_iff_ne]
        intro e
        exact h91 (UInt8.toNat_inj.1 (by show s[0].toNat = 91; omega))
      clear hl0 h91
      go_enter Tryz.func47, Tryz.ntmps47
      have hZ := hZ0
      have hB := hB0
      have HV : Hid (readS s.data.toList = none) := HV0
      have z0 : (w.alloc (.cells #[.int .u64 0, .int .u64 0, .int .u64 0, .int .u64 0] 33)).cell? ⟨w.heap.size, 0, none⟩ = some (.int .u64 0) := Blk.cell hZ.out 0
      have z1 : (w.alloc (.cells #[.int .u64 0, .int .u64 0, .int .u64 0, .int .u64 0] 33)).cell? ⟨w.heap.size, 1, none⟩ = some (.int .u64 0) := Blk.cell hZ.out 1
      have z2 : (w.alloc (.cells #[.int .u64 0, .int .u64 0, .int .u64 0, .int .u64 0] 33)).cell? ⟨w.heap.size, 2, none⟩ = some (.int .u64 0) := Blk.cell hZ.out 2
      have z3 : (w.alloc (.cells #[.int .u64 0, .int .u64 0, .int .u64 0, .int .u64 0] 33)).cell? ⟨w.heap.size, 3, none⟩ = some (.int .u64 0) := Blk.cell hZ.out 3
      have fz : ∀ i, (w.alloc (.cells #[.int .u64 0, .int .u64 0, .int .u64 0, .int .u64 0] 33)).frozen? ⟨w.heap.size, i, none⟩ = false := Blk.frozen hZ.out
      clear HV0 h2 hZ0 hB0
      go_wp2
      have y := Blk.set4 hZ.out (.int .u64 0) (.int .u64 0) (.int .u64 0) (.int .u64 0)
      have y0 := y.cell 0
      have y1 := y.cell 1
      have y2 := y.cell 2
      have y3 := y.cell 3
      refine bodyPost_ret (v := .tuple #[.agg #[.int .u64 0, .int .u64 0, .int .u64 0, .int .u64 0], .int .i64 120]) (by simp [results, Tryz.results47, go_sem, y0, y1, y2, y3]) rfl ⟨by rw [HV.out]; rfl, ?_⟩
      first | exact below_set4 hB.out (Nat.le_refl _) _ _ _ _ | exact hB.out
end Go.Proofs.YtdodkbpagbblmaaGreatDoor
end
section
namespace Go.Proofs.YtdodkbpagbblmaaGreatDoor
open Go Go.RowKit

/-- What the document's Word leaves. -/
def WordP (s : ByteArray) (m : Nat) (w : World) (e : Ending) (w' : World) : Prop :=
  Below w.heap.size w w' ∧ match nextW (s.data.toList.drop m) with
    | some p => e = .returned (.tuple #[wordV p.1 m, .int .i64 ((m + p.2 : Nat) : Int), .bool true])
    | none => ∃ x n, e = .returned (.tuple #[wordV x m, .int .i64 n, .bool false])

/-- The word's two blocks: the result's Z, the word's X. -/
structure WW (W w : World) (Z X m : Nat) (kd : Int) (tx : ByteArray) (st : BS) (nm : Int) : Prop where
  z : Blk W Z 35 #[.int .i64 0, .int .i64 0, .string ⟨#[]⟩, .int .u64 0, .int .u64 0, .int .u64 0, .int .u64 0, .int .i64 0]
  x : Blk W X 35 #[.int .i64 kd, .int .i64 (m : Int), .string tx, .int .u64 (wdI st 0), .int .u64 (wdI st 1), .int .u64 (wdI st 2), .int .u64 (wdI st 3), .int .i64 nm]
  b : Below w.heap.size w W
  zx : ¬ Z = X
  wz : w.heap.size ≤ Z
  wx : w.heap.size ≤ X
theorem WW.next {W w W' : World} {Z X m : Nat} {kd : Int} {tx : ByteArray} {st : BS} {nm : Int} (h : WW W w Z X m kd tx st nm) (hB : Below W.heap.size W W') : WW W' w Z X m kd tx st nm :=
  ⟨h.z.below hB h.z.lt, h.x.below hB h.x.lt, h.b.trans (hB.mono h.b.size), h.zx, h.wz, h.wx⟩
theorem WW.drew {W w : World} {Z X m : Nat} {kd : Int} {tx : ByteArray} {st : BS} {nm : Int} (h : WW W w Z X m kd tx st nm) : WW W.drew w Z X m kd tx st nm :=
  ⟨h.z.drew, h.x.drew, h.b.drew, h.zx, h.wz, h.wx⟩
theorem WW.setK {W w : World} {Z X m : Nat} {kd : Int} {tx : ByteArray} {st : BS} {nm : Int} (h : WW W w Z X m kd tx st nm) (k2 : Int) : WW (W.setCell ⟨X, 0, none⟩ (.int .i64 k2)) w Z X m k2 tx st nm :=
  ⟨h.z.other (by simp; exact h.zx) _, h.x.set 0 _, h.b.setCell h.wx _, h.zx, h.wz, h.wx⟩
theorem WW.setT {W w : World} {Z X m : Nat} {kd : Int} {tx : ByteArray} {st : BS} {nm : Int} (h : WW W w Z X m kd tx st nm) (t2 : ByteArray) : WW (W.setCell ⟨X, 2, none⟩ (.string t2)) w Z X m kd t2 st nm :=
  ⟨h.z.other (by simp; exact h.zx) _, h.x.set 2 _, h.b.setCell h.wx _, h.zx, h.wz, h.wx⟩
theorem WW.setN {W w : World} {Z X m : Nat} {kd : Int} {tx : ByteArray} {st : BS} {nm : Int} (h : WW W w Z X m kd tx st nm) (n2 : Int) : WW (W.setCell ⟨X, 7, none⟩ (.int .i64 n2)) w Z X m kd tx st n2 :=
  ⟨h.z.other (by simp; exact h.zx) _, h.x.set 7 _, h.b.setCell h.wx _, h.zx, h.wz, h.wx⟩
theorem WW.cx {W w : World} {Z X m : Nat} {kd : Int} {tx : ByteArray} {st : BS} {nm : Int} (h : WW W w Z X m kd tx st nm) (i : Nat) : W.cell? ⟨X, i, none⟩ = (#[.int .i64 kd, .int .i64 (m : Int), .string tx, .int .u64 (wdI st 0), .int .u64 (wdI st 1), .int .u64 (wdI st 2), .int .u64 (wdI st 3), .int .i64 nm] : Array Value)[i]? := h.x.cell i
theorem WW.cz {W w : World} {Z X m : Nat} {kd : Int} {tx : ByteArray} {st : BS} {nm : Int} (h : WW W w Z X m kd tx st nm) (i : Nat) : W.cell? ⟨Z, i, none⟩ = (#[.int .i64 0, .int .i64 0, .string ⟨#[]⟩, .int .u64 0, .int .u64 0, .int .u64 0, .int .u64 0, .int .i64 0] : Array Value)[i]? := h.z.cell i
theorem WW.setS {W w : World} {Z X m : Nat} {kd : Int} {tx : ByteArray} {st : BS} {nm : Int} (h : WW W w Z X m kd tx st nm) (s2 : BS) : WW ((((W.setCell ⟨X, 3, none⟩ (.int .u64 (wdI s2 0))).setCell ⟨X, 4, none⟩ (.int .u64 (wdI s2 1))).setCell ⟨X, 5, none⟩ (.int .u64 (wdI s2 2))).setCell ⟨X, 6, none⟩ (.int .u64 (wdI s2 3))) w Z X m kd tx s2 nm :=
  ⟨(((h.z.other (by simp; exact h.zx) _).other (by simp; exact h.zx) _).other (by simp; exact h.zx) _).other (by simp; exact h.zx) _, (((h.x.set 3 _).set 4 _).set 5 _).set 6 _, (((h.b.setCell h.wx _).setCell h.wx _).setCell h.wx _).setCell h.wx _, h.zx, h.wz, h.wx⟩
theorem WW.alloc {W w : World} {Z X m : Nat} {kd : Int} {tx : ByteArray} {st : BS} {nm : Int} (h : WW W w Z X m kd tx st nm) (o : Obj) : WW (W.alloc o) w Z X m kd tx st nm :=
  h.next ((Below.refl _ W).alloc (Nat.le_refl _) o)
theorem bset {n B i : Nat} {w W : World} (h : Below n w W) (hn : n ≤ B) (v : Value) : Below n w (W.setCell ⟨B, i, none⟩ v) := h.setCell (p := ⟨B, i, none⟩) hn v
theorem dec_lt (l : List UInt8) : ∀ (a v : Nat), Lib.decFrom a l = some v → v < (a + 1) * 10 ^ l.length := by
  induction l with
  | nil => intro a v h; cases h; simp
  | cons c r ih =>
    intro a v h
    have e : Lib.decFrom a (c :: r) = match Lib.digitVal c with
      | some d => Lib.decFrom (a * 10 + d) r
      | none => none := rfl
    rw [e, digitVal_dig] at h
    by_cases hd : digB c.toNat = true
    · rw [if_pos hd] at h
      have h2 := ih _ _ h
      have h3 : c.toNat - 48 ≤ 9 := by simp [digB] at hd; omega
      have h4 : (a * 10 + (c.toNat - 48) + 1) * 10 ^ r.length ≤ ((a + 1) * 10) * 10 ^ r.length := Nat.mul_le_mul_right _ (by omega)
      rw [List.length_cons, Nat.pow_succ, Nat.mul_comm (10 ^ r.length) 10, ← Nat.mul_assoc]
      omega
    · rw [if_neg hd] at h; cases h
theorem dec_next (l : List UInt8) (j v : Nat) (c : UInt8) (h : Lib.decFrom 0 (l.take j) = some v) (hc : l[j]? = some c) (hd : digB c.toNat = true) : Lib.decFrom 0 (l.take (j + 1)) = some (v * 10 + (c.toNat - 48)) := by
  have e : l.take (j + 1) = l.take j ++ [c] := by rw [List.take_add_one, hc]; rfl
  rw [e, decFrom_append _ _ _ _ h]
  have e2 : Lib.decFrom v [c] = match Lib.digitVal c with
      | some d => some (v * 10 + d)
      | none => none := rfl
  rw [e2, digitVal_dig, if_pos hd]
theorem runL_stop (L : List UInt8) (h : ∀ c r, L = c :: r → namB c.toNat = false) : runL L = 0 := by
  cases L with
  | nil => rfl
  | cons c r => rw [runL_cons, h c r rfl]; rfl

end Go.Proofs.YtdodkbpagbblmaaGreatDoor
end
section
namespace Go.Proofs.YtdodkbpagbblmaaGreatDoor
open Go Go.RowKit
/-! A name. -/
set_option maxRecDepth 100000 in
set_option maxHeartbeats 16000000 in
theorem word_name (s : ByteArray) (m : Nat) (hs : s.size ≤ 5000) (hm : m < s.size) (w : World) (b : Nat) (hi : ∀ h, (s[m]'h).toNat = b) (hLt : (letB b || decide (b = 95)) = true) :
    Calls Tryz.prog 24 #[.string s, .int .i64 m] w (WordP s m w) := by
  have hb256 : b < 256 := by rw [← hi hm]; exact (s[m]'hm).toNat_lt
  have hdr := Lib.hid (drop_at s m hm)
  have HNW := Lib.hid (nextW_of _ _ _ hdr.out b (hi hm))
  have n1 : (m : Int) < (s.size : Int) := by omega
  have n3 : (0 : Int) ≤ (m : Int) := by omega
  obtain ⟨wa, hwa⟩ : ∃ wa, wa = (w.alloc (.cells #[.int .i64 0, .int .i64 0, .string ⟨#[]⟩, .int .u64 0, .int .u64 0, .int .u64 0, .int .u64 0, .int .i64 0] 35)).alloc (.cells #[.int .i64 0, .int .i64 (m : Int), .string ⟨#[]⟩, .int .u64 0, .int .u64 0, .int .u64 0, .int .u64 0, .int .i64 0] 35) := ⟨_, rfl⟩
  have hww : WW wa w w.heap.size (w.heap.size + 1) m 0 ⟨#[]⟩ 0#256 0 := by
    have h1 := Blk.new (w.alloc (.cells #[.int .i64 0, .int .i64 0, .string ⟨#[]⟩, .int .u64 0, .int .u64 0, .int .u64 0, .int .u64 0, .int .i64 0] 35)) 35 #[.int .i64 0, .int .i64 (m : Int), .string ⟨#[]⟩, .int .u64 0, .int .u64 0, .int .u64 0, .int .u64 0, .int .i64 0]
    rw [World.size_alloc, ← hwa] at h1
    refine ⟨?_, ?_, ?_, by omega, Nat.le_refl _, by omega⟩
    · rw [hwa]; exact (Blk.new w 35 _).alloc _
    · rw [wz.1, wz.2.1, wz.2.2.1, wz.2.2.2]; exact h1
    · rw [hwa]; exact ((Below.refl _ w).alloc (Nat.le_refl _) _).alloc (by simp) _
  have HPost : Hid (∀ (ok : Bool) (x : Wd) (n : Nat) (w' : World), m ≤ n → Below w.heap.size w w' → nextW (s.data.toList.drop m) = (if ok then some (x, n - m) else none) → WordP s m w (.returned (.tuple #[wordV x m, .int .i64 (n : Int), .bool ok])) w') := Lib.hid (fun ok x n w' hn hB h => by
    unfold WordP
    refine ⟨hB, ?_⟩
    cases ok with
    | true =>
      rw [h]
      show Ending.returned (.tuple #[wordV x m, .int .i64 (n : Int), .bool true]) = .returned (.tuple #[wordV x m, .int .i64 ((m + (n - m) : Nat) : Int), .bool true])
      rw [show m + (n - m) = n by omega]
    | false =>
      rw [h]
      exact ⟨x, n, rfl⟩)
  have HW := Lib.hid hww
  have HWa := Lib.hid hwa
  have HL := Lib.hid (fun y (hy : y < 256) w' => letter_any y hy w')
  have HD := Lib.hid (fun y (hy : y < 256) w' => rdigit_any y hy w')
  clear hwa hww
  have HR0 : Hid (runL (s.data.toList.drop m) = (m - m) + runL (s.data.toList.drop m)) := Lib.hid (by omega)
  go_enter Tryz.func24, Tryz.ntmps24
  go_wp2_with fail
  rw [← HWa.out]
  refine (HL.out b hb256 _).mono ?_
  rw [hLt]
  rintro e w' ⟨rfl, rfl⟩
  go_wp2
  go_loopw [9] (fun i wr => ∃ q : Nat, i = .int .i64 q ∧ m ≤ q ∧ q ≤ s.size ∧ Hid (runL (s.data.toList.drop m) = (q - m) + runL (s.data.toList.drop q)) ∧ wr = wa)
    (fun i _ => s.size - (intOf i).toNat)
  case atStart => exact ⟨m, rfl, Nat.le_refl _, by omega, HR0, rfl⟩
  case round =>
    clear HR0
    obtain ⟨q, rfl, hq1, hq2, hR, rfl⟩ := hrel
    by_cases hlt : q < s.size
    · have n4 : (q : Int) < (s.size : Int) := by omega
      obtain ⟨y, hy⟩ : ∃ y, y = (s[q]'hlt).toNat := ⟨_, rfl⟩
      have hi2 : ∀ h, (s[q]'h).toNat = y := fun h => hy.symm
      have hy256 : y < 256 := by rw [hy]; exact (s[q]'hlt).toNat_lt
      have hd := drop_at s q hlt
      have hL := fun w' => Lib.hid (HL.out y hy256 w')
      have hD := fun w' => Lib.hid (HD.out y hy256 w')
      have hns := nam_split y
      cases hyl : (letB y || decide (y = 95)) with
      | true =>
        rw [hyl] at hL
        have hR2 : Hid (runL (s.data.toList.drop m) = ((q + 1) - m) + runL (s.data.toList.drop (q + 1))) := Lib.hid (by
          rw [hR.out, hd, runL_cons, ← hy, hns, hyl]; simp; omega)
        clear hR hd hy hns hyl
        go_wp2_with (first | (go_at_call 35; refine (hL _).out.mono ?_; rintro e w' ⟨rfl, rfl⟩) | (go_at_call 36; refine (hD _).out.mono ?_; rintro e w' ⟨rfl, rfl⟩))
        go_roundw
        case rel => exact ⟨q + 1, by go_num, by omega, by omega, hR2, by first | rfl | trivial⟩
        case measure => simp [intOf]; omega
      | false =>
        rw [hyl] at hL
        cases hyd : digB y with
        | true =>
          rw [hyd] at hD
          have hR2 : Hid (runL (s.data.toList.drop m) = ((q + 1) - m) + runL (s.data.toList.drop (q + 1))) := Lib.hid (by
            rw [hR.out, hd, runL_cons, ← hy, hns, hyl, hyd]; simp; omega)
          clear hR hd hy hns hyl hyd
          go_wp2_with (first | (go_at_call 35; refine (hL _).out.mono ?_; rintro e w' ⟨rfl, rfl⟩) | (go_at_call 36; refine (hD _).out.mono ?_; rintro e w' ⟨rfl, rfl⟩))
          go_roundw
          case rel => exact ⟨q + 1, by go_num, by omega, by omega, hR2, by first | rfl | trivial⟩
          case measure => simp [intOf]; omega
        | false =>
          rw [hyd] at hD
          have HR : Hid (runL (s.data.toList.drop m) = q - m) := Lib.hid (by
            rw [hR.out, hd, runL_cons, ← hy, hns, hyl, hyd]; simp)
          clear hR hd hy hns hyl hyd
          go_wp2_with (first | (go_at_call 35; refine (hL _).out.mono ?_; rintro e w' ⟨rfl, rfl⟩) | (go_at_call 36; refine (hD _).out.mono ?_; rintro e w' ⟨rfl, rfl⟩))
          obtain ⟨v, hv⟩ : ∃ v, nameB ((s.data.toList.drop m).take (runL (s.data.toList.drop m))) = v := ⟨_, rfl⟩
          have htx : (s.extract m q).data.toList = (s.data.toList.drop m).take (runL (s.data.toList.drop m)) := by
            rw [HR.out, ByteArray.data_extract, Array.toList_extract, List.extract_eq_take_drop]
          have HN : Hid (nextW (s.data.toList.drop m) = (if v then some (⟨1, s.extract m q, 0#256, 0⟩, q - m) else none)) := Lib.hid (by
            rw [HNW.out, if_pos hLt, hv, HR.out]
            have : bytesOf ((s.data.toList.drop m).take (q - m)) = s.extract m q := by
              rw [← cut_list]; unfold cutS; congr 1; omega
            rw [this])
          have hNm := rname_any (s.extract m q) (by rw [Lib.size_eq, htx, List.length_take]; have := drop_len s m; omega)
          rw [htx, hv] at hNm
          have HNm := fun w' => Lib.hid (hNm w')
          have q1 : (m : Int) ≤ (q : Int) := by omega
          have q2 : (q : Int) ≤ (s.size : Int) := by omega
          have HT := HW
          have z0 := HT.out.cz 0
          have z1 := HT.out.cz 1
          have z2 := HT.out.cz 2
          have z3 := HT.out.cz 3
          have z4 := HT.out.cz 4
          have z5 := HT.out.cz 5
          have z6 := HT.out.cz 6
          have z7 := HT.out.cz 7
          have zf := HT.out.z.frozen
          have zl := HT.out.z.lt
          have x0 := HT.out.cx 0
          have x1 := HT.out.cx 1
          have x2 := HT.out.cx 2
          have x3 := HT.out.cx 3
          have x4 := HT.out.cx 4
          have x5 := HT.out.cx 5
          have x6 := HT.out.cx 6
          have x7 := HT.out.cx 7
          have xf := HT.out.x.frozen
          have xl := HT.out.x.lt
          simp only [List.getElem?_toArray, List.getElem?_cons_zero, List.getElem?_cons_succ] at z0 z1 z2 z3 z4 z5 z6 z7 x0 x1 x2 x3 x4 x5 x6 x7
          have e1 := HT.out.zx
          have e2 : ¬ w.heap.size + 1 = w.heap.size := by omega

          clear htx hNm hv HR

          go_wp2
          go_region
          obtain ⟨wb, hwb⟩ : ∃ wb, wb = ((wr.setCell ⟨w.heap.size + 1, 0, none⟩ (.int .i64 1)).setCell ⟨w.heap.size + 1, 2, none⟩ (.string (s.extract m q))).drew := ⟨_, rfl⟩
          have HT : Hid (WW wb w w.heap.size (w.heap.size + 1) m 1 (s.extract m q) 0#256 0) := Lib.hid (by rw [hwb]; exact ((HW.out.setK 1).setT (s.extract m q)).drew)
          rw [← hwb]
          clear hwb z0 z1 z2 z3 z4 z5 z6 z7 zf zl x0 x1 x2 x3 x4 x5 x6 x7 xf xl e1 e2
          have z0 := HT.out.cz 0
          have z1 := HT.out.cz 1
          have z2 := HT.out.cz 2
          have z3 := HT.out.cz 3
          have z4 := HT.out.cz 4
          have z5 := HT.out.cz 5
          have z6 := HT.out.cz 6
          have z7 := HT.out.cz 7
          have zf := HT.out.z.frozen
          have zl := HT.out.z.lt
          have x0 := HT.out.cx 0
          have x1 := HT.out.cx 1
          have x2 := HT.out.cx 2
          have x3 := HT.out.cx 3
          have x4 := HT.out.cx 4
          have x5 := HT.out.cx 5
          have x6 := HT.out.cx 6
          have x7 := HT.out.cx 7
          have xf := HT.out.x.frozen
          have xl := HT.out.x.lt
          simp only [List.getElem?_toArray, List.getElem?_cons_zero, List.getElem?_cons_succ] at z0 z1 z2 z3 z4 z5 z6 z7 x0 x1 x2 x3 x4 x5 x6 x7
          have e1 := HT.out.zx
          have e2 : ¬ w.heap.size + 1 = w.heap.size := by omega

          go_wp2
          go_region_with (go_at_call 20; (with_reducible refine (HNm _).out.mono ?_); rintro e w' ⟨rfl, rfl⟩)

          all_goals go_wp2
          all_goals (refine bodyPost_ret (v := .tuple #[wordV ⟨1, s.extract m q, 0#256, 0⟩ m, .int .i64 ((q : Nat) : Int), .bool v]) (by simp [results, Tryz.results24, go_sem, wordV, wordC, wz.1, wz.2.1, wz.2.2.1, wz.2.2.2, z0, z1, z2, z3, z4, z5, z6, z7]) rfl (HPost.out v ⟨1, s.extract m q, 0#256, 0⟩ (q) _ hq1 ?_ HN.out))
          all_goals repeat (first | with_reducible exact HT.out.b | with_reducible refine Below.drew ?_ | with_reducible refine bset ?_ (Nat.le_refl _) _ | with_reducible refine bset ?_ (Nat.le_succ _) _)

    · have n4 : ¬ (q : Int) < (s.size : Int) := by omega
      have HR : Hid (runL (s.data.toList.drop m) = q - m) := Lib.hid (by
        rw [hR.out, drop_end s q (by omega)]; rfl)
      clear hR
      go_wp2
      have Hq2 := Lib.hid hq2
      have Hlt := Lib.hid hlt
      obtain ⟨v, hv⟩ : ∃ v, nameB ((s.data.toList.drop m).take (runL (s.data.toList.drop m))) = v := ⟨_, rfl⟩
      have htx : (s.extract m q).data.toList = (s.data.toList.drop m).take (runL (s.data.toList.drop m)) := by
        rw [HR.out, ByteArray.data_extract, Array.toList_extract, List.extract_eq_take_drop]
      have HN : Hid (nextW (s.data.toList.drop m) = (if v then some (⟨1, s.extract m q, 0#256, 0⟩, q - m) else none)) := Lib.hid (by
        rw [HNW.out, if_pos hLt, hv, HR.out]
        have : bytesOf ((s.data.toList.drop m).take (q - m)) = s.extract m q := by
          rw [← cut_list]; unfold cutS; congr 1; omega
        rw [this])
      have hNm := rname_any (s.extract m q) (by rw [Lib.size_eq, htx, List.length_take]; have := drop_len s m; omega)
      rw [htx, hv] at hNm
      have HNm := fun w' => Lib.hid (hNm w')
      have q1 : (m : Int) ≤ (q : Int) := by omega
      have q2 : (q : Int) ≤ (s.size : Int) := by omega
      have HT := HW
      have z0 := HT.out.cz 0
      have z1 := HT.out.cz 1
      have z2 := HT.out.cz 2
      have z3 := HT.out.cz 3
      have z4 := HT.out.cz 4
      have z5 := HT.out.cz 5
      have z6 := HT.out.cz 6
      have z7 := HT.out.cz 7
      have zf := HT.out.z.frozen
      have zl := HT.out.z.lt
      have x0 := HT.out.cx 0
      have x1 := HT.out.cx 1
      have x2 := HT.out.cx 2
      have x3 := HT.out.cx 3
      have x4 := HT.out.cx 4
      have x5 := HT.out.cx 5
      have x6 := HT.out.cx 6
      have x7 := HT.out.cx 7
      have xf := HT.out.x.frozen
      have xl := HT.out.x.lt
      simp only [List.getElem?_toArray, List.getElem?_cons_zero, List.getElem?_cons_succ] at z0 z1 z2 z3 z4 z5 z6 z7 x0 x1 x2 x3 x4 x5 x6 x7
      have e1 := HT.out.zx
      have e2 : ¬ w.heap.size + 1 = w.heap.size := by omega

      clear htx hNm hv HR

      go_wp2
      go_region
      obtain ⟨wb, hwb⟩ : ∃ wb, wb = ((wr.setCell ⟨w.heap.size + 1, 0, none⟩ (.int .i64 1)).setCell ⟨w.heap.size + 1, 2, none⟩ (.string (s.extract m q))).drew := ⟨_, rfl⟩
      have HT : Hid (WW wb w w.heap.size (w.heap.size + 1) m 1 (s.extract m q) 0#256 0) := Lib.hid (by rw [hwb]; exact ((HW.out.setK 1).setT (s.extract m q)).drew)
      rw [← hwb]
      clear hwb z0 z1 z2 z3 z4 z5 z6 z7 zf zl x0 x1 x2 x3 x4 x5 x6 x7 xf xl e1 e2
      have z0 := HT.out.cz 0
      have z1 := HT.out.cz 1
      have z2 := HT.out.cz 2
      have z3 := HT.out.cz 3
      have z4 := HT.out.cz 4
      have z5 := HT.out.cz 5
      have z6 := HT.out.cz 6
      have z7 := HT.out.cz 7
      have zf := HT.out.z.frozen
      have zl := HT.out.z.lt
      have x0 := HT.out.cx 0
      have x1 := HT.out.cx 1
      have x2 := HT.out.cx 2
      have x3 := HT.out.cx 3
      have x4 := HT.out.cx 4
      have x5 := HT.out.cx 5
      have x6 := HT.out.cx 6
      have x7 := HT.out.cx 7
      have xf := HT.out.x.frozen
      have xl := HT.out.x.lt
      simp only [List.getElem?_toArray, List.getElem?_cons_zero, List.getElem?_cons_succ] at z0 z1 z2 z3 z4 z5 z6 z7 x0 x1 x2 x3 x4 x5 x6 x7
      have e1 := HT.out.zx
      have e2 : ¬ w.heap.size + 1 = w.heap.size := by omega

      go_wp2
      go_region_with (go_at_call 20; (with_reducible refine (HNm _).out.mono ?_); rintro e w' ⟨rfl, rfl⟩)

      all_goals go_wp2
      all_goals (refine bodyPost_ret (v := .tuple #[wordV ⟨1, s.extract m q, 0#256, 0⟩ m, .int .i64 ((q : Nat) : Int), .bool v]) (by simp [results, Tryz.results24, go_sem, wordV, wordC, wz.1, wz.2.1, wz.2.2.1, wz.2.2.2, z0, z1, z2, z3, z4, z5, z6, z7]) rfl (HPost.out v ⟨1, s.extract m q, 0#256, 0⟩ (q) _ hq1 ?_ HN.out))
      all_goals repeat (first | with_reducible exact HT.out.b | with_reducible refine Below.drew ?_ | with_reducible refine bset ?_ (Nat.le_refl _) _ | with_reducible refine bset ?_ (Nat.le_succ _) _)


end Go.Proofs.YtdodkbpagbblmaaGreatDoor
end
section
namespace Go.Proofs.YtdodkbpagbblmaaGreatDoor
open Go Go.RowKit
/-! A text. -/
set_option maxRecDepth 100000 in
set_option maxHeartbeats 16000000 in
theorem word_text (s : ByteArray) (m : Nat) (hs : s.size ≤ 5000) (hm : m < s.size) (w : World) (b : Nat) (hi : ∀ h, (s[m]'h).toNat = b) (hLt : (letB b || decide (b = 95)) = false) (c34 : b = 34) :
    Calls Tryz.prog 24 #[.string s, .int .i64 m] w (WordP s m w) := by
  have hb256 : b < 256 := by rw [← hi hm]; exact (s[m]'hm).toNat_lt
  have hdr := Lib.hid (drop_at s m hm)
  have HNW := Lib.hid (nextW_of _ _ _ hdr.out b (hi hm))
  have n1 : (m : Int) < (s.size : Int) := by omega
  have n3 : (0 : Int) ≤ (m : Int) := by omega
  obtain ⟨wa, hwa⟩ : ∃ wa, wa = (w.alloc (.cells #[.int .i64 0, .int .i64 0, .string ⟨#[]⟩, .int .u64 0, .int .u64 0, .int .u64 0, .int .u64 0, .int .i64 0] 35)).alloc (.cells #[.int .i64 0, .int .i64 (m : Int), .string ⟨#[]⟩, .int .u64 0, .int .u64 0, .int .u64 0, .int .u64 0, .int .i64 0] 35) := ⟨_, rfl⟩
  have hww : WW wa w w.heap.size (w.heap.size + 1) m 0 ⟨#[]⟩ 0#256 0 := by
    have h1 := Blk.new (w.alloc (.cells #[.int .i64 0, .int .i64 0, .string ⟨#[]⟩, .int .u64 0, .int .u64 0, .int .u64 0, .int .u64 0, .int .i64 0] 35)) 35 #[.int .i64 0, .int .i64 (m : Int), .string ⟨#[]⟩, .int .u64 0, .int .u64 0, .int .u64 0, .int .u64 0, .int .i64 0]
    rw [World.size_alloc, ← hwa] at h1
    refine ⟨?_, ?_, ?_, by omega, Nat.le_refl _, by omega⟩
    · rw [hwa]; exact (Blk.new w 35 _).alloc _
    · rw [wz.1, wz.2.1, wz.2.2.1, wz.2.2.2]; exact h1
    · rw [hwa]; exact ((Below.refl _ w).alloc (Nat.le_refl _) _).alloc (by simp) _
  have HPost : Hid (∀ (ok : Bool) (x : Wd) (n : Nat) (w' : World), m ≤ n → Below w.heap.size w w' → nextW (s.data.toList.drop m) = (if ok then some (x, n - m) else none) → WordP s m w (.returned (.tuple #[wordV x m, .int .i64 (n : Int), .bool ok])) w') := Lib.hid (fun ok x n w' hn hB h => by
    unfold WordP
    refine ⟨hB, ?_⟩
    cases ok with
    | true =>
      rw [h]
      show Ending.returned (.tuple #[wordV x m, .int .i64 (n : Int), .bool true]) = .returned (.tuple #[wordV x m, .int .i64 ((m + (n - m) : Nat) : Int), .bool true])
      rw [show m + (n - m) = n by omega]
    | false =>
      rw [h]
      exact ⟨x, n, rfl⟩)
  have HW := Lib.hid hww
  have HWa := Lib.hid hwa
  have HL := Lib.hid (fun y (hy : y < 256) w' => letter_any y hy w')
  have HD := Lib.hid (fun y (hy : y < 256) w' => rdigit_any y hy w')
  clear hwa hww
  have C34 := Lib.hid c34
  clear c34
  go_enter Tryz.func24, Tryz.ntmps24
  go_wp2_with fail
  rw [← HWa.out]
  refine (HL.out b hb256 _).mono ?_
  rw [hLt]
  rintro e w' ⟨rfl, rfl⟩
  have c34 := C34.out
  have d1 : ((b : Int) == 34) = true := by rw [beq_iff_eq]; omega
  have HNx : Hid (nextW (s.data.toList.drop m) = (textO (s.data.toList.drop (m + 1))).map fun p => (⟨2, bytesStr p.1, 0#256, 0⟩, 1 + p.2)) := Lib.hid (by rw [HNW.out, if_neg (by rw [hLt]; simp), if_neg (by rw [c34]; decide), if_pos c34])
  have HTx0 := fun w' => rtxt_any s m (by omega) hm w'
  cases ho : textO (s.data.toList.drop (m + 1)) with
  | some p =>
    rw [ho] at HTx0
    have HTx := fun w' => Lib.hid (HTx0 w')
    have HN : Hid (nextW (s.data.toList.drop m) = (if true then some ((⟨2, bytesStr p.1, 0#256, 0⟩ : Wd), m + 1 + p.2 - m) else none)) := Lib.hid (by
      rw [HNx.out, ho, show m + 1 + p.2 - m = 1 + p.2 by omega]; rfl)
    have hq1 : m ≤ m + 1 + p.2 := by omega
    clear ho HTx0
    unfold txtV at HTx
    dsimp only at HTx
    go_wp2_with fail
    refine (HTx _).out.mono ?_
    rintro e w2 ⟨rfl, hB2⟩
    have HT := Lib.hid (HW.out.next hB2)
    have z0 := HT.out.cz 0
    have z1 := HT.out.cz 1
    have z2 := HT.out.cz 2
    have z3 := HT.out.cz 3
    have z4 := HT.out.cz 4
    have z5 := HT.out.cz 5
    have z6 := HT.out.cz 6
    have z7 := HT.out.cz 7
    have zf := HT.out.z.frozen
    have zl := HT.out.z.lt
    have x0 := HT.out.cx 0
    have x1 := HT.out.cx 1
    have x2 := HT.out.cx 2
    have x3 := HT.out.cx 3
    have x4 := HT.out.cx 4
    have x5 := HT.out.cx 5
    have x6 := HT.out.cx 6
    have x7 := HT.out.cx 7
    have xf := HT.out.x.frozen
    have xl := HT.out.x.lt
    simp only [List.getElem?_toArray, List.getElem?_cons_zero, List.getElem?_cons_succ] at z0 z1 z2 z3 z4 z5 z6 z7 x0 x1 x2 x3 x4 x5 x6 x7
    have e1 := HT.out.zx
    have e2 : ¬ w.heap.size + 1 = w.heap.size := by omega

    clear hB2
    go_wp2
    all_goals go_wp2
    all_goals (refine bodyPost_ret (v := .tuple #[wordV ⟨2, bytesStr p.1, 0#256, 0⟩ m, .int .i64 ((m + 1 + p.2 : Nat) : Int), .bool true]) (by simp [results, Tryz.results24, go_sem, wordV, wordC, wz.1, wz.2.1, wz.2.2.1, wz.2.2.2, z0, z1, z2, z3, z4, z5, z6, z7]) rfl (HPost.out true ⟨2, bytesStr p.1, 0#256, 0⟩ (m + 1 + p.2) _ hq1 ?_ HN.out))
    all_goals repeat (first | with_reducible exact HT.out.b | with_reducible refine Below.drew ?_ | with_reducible refine bset ?_ (Nat.le_refl _) _ | with_reducible refine bset ?_ (Nat.le_succ _) _)

  | none =>
    rw [ho] at HTx0
    have HTx := fun w' => Lib.hid (HTx0 w')
    have HN : Hid (nextW (s.data.toList.drop m) = (if false then some ((⟨2, ⟨#[]⟩, 0#256, 0⟩ : Wd), m - m) else none)) := Lib.hid (by rw [HNx.out, ho]; rfl)
    have hq1 : m ≤ m := Nat.le_refl _
    clear ho HTx0
    unfold txtV at HTx
    dsimp only at HTx
    go_wp2_with fail
    refine (HTx _).out.mono ?_
    rintro e w2 ⟨rfl, hB2⟩
    have HT := Lib.hid (HW.out.next hB2)
    have z0 := HT.out.cz 0
    have z1 := HT.out.cz 1
    have z2 := HT.out.cz 2
    have z3 := HT.out.cz 3
    have z4 := HT.out.cz 4
    have z5 := HT.out.cz 5
    have z6 := HT.out.cz 6
    have z7 := HT.out.cz 7
    have zf := HT.out.z.frozen
    have zl := HT.out.z.lt
    have x0 := HT.out.cx 0
    have x1 := HT.out.cx 1
    have x2 := HT.out.cx 2
    have x3 := HT.out.cx 3
    have x4 := HT.out.cx 4
    have x5 := HT.out.cx 5
    have x6 := HT.out.cx 6
    have x7 := HT.out.cx 7
    have xf := HT.out.x.frozen
    have xl := HT.out.x.lt
    simp only [List.getElem?_toArray, List.getElem?_cons_zero, List.getElem?_cons_succ] at z0 z1 z2 z3 z4 z5 z6 z7 x0 x1 x2 x3 x4 x5 x6 x7
    have e1 := HT.out.zx
    have e2 : ¬ w.heap.size + 1 = w.heap.size := by omega

    clear hB2
    go_wp2
    all_goals go_wp2
    all_goals (refine bodyPost_ret (v := .tuple #[wordV ⟨2, ⟨#[]⟩, 0#256, 0⟩ m, .int .i64 ((m : Nat) : Int), .bool false]) (by simp [results, Tryz.results24, go_sem, wordV, wordC, wz.1, wz.2.1, wz.2.2.1, wz.2.2.2, z0, z1, z2, z3, z4, z5, z6, z7]) rfl (HPost.out false ⟨2, ⟨#[]⟩, 0#256, 0⟩ (m) _ hq1 ?_ HN.out))
    all_goals repeat (first | with_reducible exact HT.out.b | with_reducible refine Below.drew ?_ | with_reducible refine bset ?_ (Nat.le_refl _) _ | with_reducible refine bset ?_ (Nat.le_succ _) _)
end Go.Proofs.YtdodkbpagbblmaaGreatDoor
end
section
namespace Go.Proofs.YtdodkbpagbblmaaGreatDoor
open Go Go.RowKit
/-! A set. -/
set_option maxRecDepth 100000 in
set_option maxHeartbeats 16000000 in
theorem word_set (s : ByteArray) (m : Nat) (hs : s.size ≤ 5000) (hm : m < s.size) (w : World) (b : Nat) (hi : ∀ h, (s[m]'h).toNat = b) (hLt : (letB b || decide (b = 95)) = false) (c34 : ¬ b = 34) (c91 : b = 91) :
    Calls Tryz.prog 24 #[.string s, .int .i64 m] w (WordP s m w) := by
  have hb256 : b < 256 := by rw [← hi hm]; exact (s[m]'hm).toNat_lt
  have hdr := Lib.hid (drop_at s m hm)
  have HNW := Lib.hid (nextW_of _ _ _ hdr.out b (hi hm))
  have n1 : (m : Int) < (s.size : Int) := by omega
  have n3 : (0 : Int) ≤ (m : Int) := by omega
  obtain ⟨wa, hwa⟩ : ∃ wa, wa = (w.alloc (.cells #[.int .i64 0, .int .i64 0, .string ⟨#[]⟩, .int .u64 0, .int .u64 0, .int .u64 0, .int .u64 0, .int .i64 0] 35)).alloc (.cells #[.int .i64 0, .int .i64 (m : Int), .string ⟨#[]⟩, .int .u64 0, .int .u64 0, .int .u64 0, .int .u64 0, .int .i64 0] 35) := ⟨_, rfl⟩
  have hww : WW wa w w.heap.size (w.heap.size + 1) m 0 ⟨#[]⟩ 0#256 0 := by
    have h1 := Blk.new (w.alloc (.cells #[.int .i64 0, .int .i64 0, .string ⟨#[]⟩, .int .u64 0, .int .u64 0, .int .u64 0, .int .u64 0, .int .i64 0] 35)) 35 #[.int .i64 0, .int .i64 (m : Int), .string ⟨#[]⟩, .int .u64 0, .int .u64 0, .int .u64 0, .int .u64 0, .int .i64 0]
    rw [World.size_alloc, ← hwa] at h1
    refine ⟨?_, ?_, ?_, by omega, Nat.le_refl _, by omega⟩
    · rw [hwa]; exact (Blk.new w 35 _).alloc _
    · rw [wz.1, wz.2.1, wz.2.2.1, wz.2.2.2]; exact h1
    · rw [hwa]; exact ((Below.refl _ w).alloc (Nat.le_refl _) _).alloc (by simp) _
  have HPost : Hid (∀ (ok : Bool) (x : Wd) (n : Nat) (w' : World), m ≤ n → Below w.heap.size w w' → nextW (s.data.toList.drop m) = (if ok then some (x, n - m) else none) → WordP s m w (.returned (.tuple #[wordV x m, .int .i64 (n : Int), .bool ok])) w') := Lib.hid (fun ok x n w' hn hB h => by
    unfold WordP
    refine ⟨hB, ?_⟩
    cases ok with
    | true =>
      rw [h]
      show Ending.returned (.tuple #[wordV x m, .int .i64 (n : Int), .bool true]) = .returned (.tuple #[wordV x m, .int .i64 ((m + (n - m) : Nat) : Int), .bool true])
      rw [show m + (n - m) = n by omega]
    | false =>
      rw [h]
      exact ⟨x, n, rfl⟩)
  have HW := Lib.hid hww
  have HWa := Lib.hid hwa
  have HL := Lib.hid (fun y (hy : y < 256) w' => letter_any y hy w')
  have HD := Lib.hid (fun y (hy : y < 256) w' => rdigit_any y hy w')
  clear hwa hww
  have C91 := Lib.hid c91
  clear c91
  go_enter Tryz.func24, Tryz.ntmps24
  go_wp2_with fail
  rw [← HWa.out]
  refine (HL.out b hb256 _).mono ?_
  rw [hLt]
  rintro e w' ⟨rfl, rfl⟩
  have c91 := C91.out
  have d1 : ((b : Int) == 34) = false := by rw [beq_eq_false_iff_ne]; omega
  have d2 : ((b : Int) == 91) = true := by rw [beq_iff_eq]; omega
  have HNx : Hid (nextW (s.data.toList.drop m) = (setO (s.data.toList.drop m)).map fun st => (⟨3, ⟨#[]⟩, st, 0⟩, setL (s.data.toList.drop m))) := Lib.hid (by rw [HNW.out, if_neg (by rw [hLt]; simp), if_neg (by rw [c91]; decide), if_neg c34, if_pos c91])
  have HR0 : Hid (setL (s.data.toList.drop m) = ofs (m - m) (setL (s.data.toList.drop m))) := Lib.hid (by rw [Nat.sub_self]; unfold ofs; split <;> omega)
  go_wp2
  go_loopw [9] (fun i wr => ∃ q : Nat, i = .int .i64 q ∧ m ≤ q ∧ q ≤ s.size + 1 ∧ Hid (setL (s.data.toList.drop m) = ofs (q - m) (setL (s.data.toList.drop q))) ∧ wr = wa)
    (fun i _ => s.size + 1 - (intOf i).toNat)
  case atStart => exact ⟨m, rfl, Nat.le_refl _, by omega, HR0, rfl⟩
  case round =>
    clear HR0
    obtain ⟨q, rfl, hq1, hq2, hR, rfl⟩ := hrel
    by_cases hlt : q < s.size
    · have n4 : (q : Int) < (s.size : Int) := by omega
      obtain ⟨y, hy⟩ : ∃ y, y = (s[q]'hlt).toNat := ⟨_, rfl⟩
      have hi2 : ∀ h, (s[q]'h).toNat = y := fun h => hy.symm
      have hd := drop_at s q hlt
      by_cases c93 : y = 93
      · have d3 : ((y : Int) != 93) = false := by rw [bne_eq_false_iff_eq]; omega
        have HR : Hid (setL (s.data.toList.drop m) = q - m + 1) := Lib.hid (by
          rw [hR.out, hd, setL_cons, ← hy, if_neg (by omega), if_pos c93]; rfl)
        clear hR hd hy
        have hSO : setO (s.data.toList.drop m) = readS (s.extract m (q + 1)).data.toList := by
          unfold setO
          rw [HR.out, ByteArray.data_extract, Array.toList_extract, List.extract_eq_take_drop]
          congr 2; omega
        have hxs : (s.extract m (q + 1)).size ≤ 5000 := by
          rw [Lib.size_eq, ByteArray.data_extract, Array.toList_extract, List.extract_eq_take_drop, List.length_take]; have := drop_len s m; omega
        have HRd0 := fun w' => rread_any (s.extract m (q + 1)) hxs w'
        have q1 : (m : Int) ≤ (q : Int) + 1 := by omega
        have q2 : (q : Int) + 1 ≤ (s.size : Int) := by omega
        have q3 : ¬ (s.size : Int) ≤ (q : Int) := by omega
        have hq1 : m ≤ q + 1 := by omega
        cases ho : readS (s.extract m (q + 1)).data.toList with
        | some st =>
          rw [ho] at HRd0
          have HRd := fun w' => Lib.hid (HRd0 w')

          have HN : Hid (nextW (s.data.toList.drop m) = (if true then some ((⟨3, ⟨#[]⟩, st, 0⟩ : Wd), q + 1 - m) else none)) := Lib.hid (by
            rw [HNx.out, hSO, ho, HR.out, show q + 1 - m = q - m + 1 by omega]; rfl)
          clear ho HRd0 hSO
          unfold readV vset at HRd
          dsimp only at HRd
          go_wp2_with fail
          refine (HRd _).out.mono ?_
          rintro e w2 ⟨rfl, hB2⟩
          have HT := Lib.hid (HW.out.next hB2)
          have z0 := HT.out.cz 0
          have z1 := HT.out.cz 1
          have z2 := HT.out.cz 2
          have z3 := HT.out.cz 3
          have z4 := HT.out.cz 4
          have z5 := HT.out.cz 5
          have z6 := HT.out.cz 6
          have z7 := HT.out.cz 7
          have zf := HT.out.z.frozen
          have zl := HT.out.z.lt
          have x0 := HT.out.cx 0
          have x1 := HT.out.cx 1
          have x2 := HT.out.cx 2
          have x3 := HT.out.cx 3
          have x4 := HT.out.cx 4
          have x5 := HT.out.cx 5
          have x6 := HT.out.cx 6
          have x7 := HT.out.cx 7
          have xf := HT.out.x.frozen
          have xl := HT.out.x.lt
          simp only [List.getElem?_toArray, List.getElem?_cons_zero, List.getElem?_cons_succ] at z0 z1 z2 z3 z4 z5 z6 z7 x0 x1 x2 x3 x4 x5 x6 x7
          have e1 := HT.out.zx
          have e2 : ¬ w.heap.size + 1 = w.heap.size := by omega

          clear hB2
          go_wp2
          go_region
          obtain ⟨wb, hwb⟩ : ∃ wb, wb = ((((((w2.setCell ⟨w.heap.size + 1, 0, none⟩ (.int .i64 3)).setCell ⟨w.heap.size + 1, 3, none⟩ (.int .u64 (wdI st 0))).setCell ⟨w.heap.size + 1, 4, none⟩ (.int .u64 (wdI st 1))).setCell ⟨w.heap.size + 1, 5, none⟩ (.int .u64 (wdI st 2))).setCell ⟨w.heap.size + 1, 6, none⟩ (.int .u64 (wdI st 3))).alloc (.cells #[.int .u64 (wdI st 0), .int .u64 (wdI st 1), .int .u64 (wdI st 2), .int .u64 (wdI st 3)] 33)).drew := ⟨_, rfl⟩
          have HT : Hid (WW wb w w.heap.size (w.heap.size + 1) m 3 ⟨#[]⟩ (st) 0) := Lib.hid (by rw [hwb]; exact (((HT.out.setK 3).setS st).alloc _).drew)
          rw [← hwb]
          clear hwb z0 z1 z2 z3 z4 z5 z6 z7 zf zl x0 x1 x2 x3 x4 x5 x6 x7 xf xl e1 e2
          have z0 := HT.out.cz 0
          have z1 := HT.out.cz 1
          have z2 := HT.out.cz 2
          have z3 := HT.out.cz 3
          have z4 := HT.out.cz 4
          have z5 := HT.out.cz 5
          have z6 := HT.out.cz 6
          have z7 := HT.out.cz 7
          have zf := HT.out.z.frozen
          have zl := HT.out.z.lt
          have x0 := HT.out.cx 0
          have x1 := HT.out.cx 1
          have x2 := HT.out.cx 2
          have x3 := HT.out.cx 3
          have x4 := HT.out.cx 4
          have x5 := HT.out.cx 5
          have x6 := HT.out.cx 6
          have x7 := HT.out.cx 7
          have xf := HT.out.x.frozen
          have xl := HT.out.x.lt
          simp only [List.getElem?_toArray, List.getElem?_cons_zero, List.getElem?_cons_succ] at z0 z1 z2 z3 z4 z5 z6 z7 x0 x1 x2 x3 x4 x5 x6 x7
          have e1 := HT.out.zx
          have e2 : ¬ w.heap.size + 1 = w.heap.size := by omega

          go_wp2
          all_goals go_wp2
          all_goals (refine bodyPost_ret (v := .tuple #[wordV ⟨3, ⟨#[]⟩, st, 0⟩ m, .int .i64 ((q + 1 : Nat) : Int), .bool true]) (by simp [results, Tryz.results24, go_sem, wordV, wordC, wz.1, wz.2.1, wz.2.2.1, wz.2.2.2, z0, z1, z2, z3, z4, z5, z6, z7]) rfl (HPost.out true ⟨3, ⟨#[]⟩, st, 0⟩ (q + 1) _ hq1 ?_ HN.out))
          all_goals repeat (first | with_reducible exact HT.out.b | with_reducible refine Below.drew ?_ | with_reducible refine bset ?_ (Nat.le_refl _) _ | with_reducible refine bset ?_ (Nat.le_succ _) _)

        | none =>
          rw [ho] at HRd0
          have HRd := fun w' => Lib.hid (HRd0 w')

          have HN : Hid (nextW (s.data.toList.drop m) = (if false then some ((⟨3, ⟨#[]⟩, 0#256, 0⟩ : Wd), q + 1 - m) else none)) := Lib.hid (by
            rw [HNx.out, hSO, ho, HR.out, show q + 1 - m = q - m + 1 by omega]; rfl)
          clear ho HRd0 hSO
          unfold readV at HRd
          dsimp only at HRd
          go_wp2_with fail
          refine (HRd _).out.mono ?_
          rintro e w2 ⟨rfl, hB2⟩
          have HT := Lib.hid (HW.out.next hB2)
          have z0 := HT.out.cz 0
          have z1 := HT.out.cz 1
          have z2 := HT.out.cz 2
          have z3 := HT.out.cz 3
          have z4 := HT.out.cz 4
          have z5 := HT.out.cz 5
          have z6 := HT.out.cz 6
          have z7 := HT.out.cz 7
          have zf := HT.out.z.frozen
          have zl := HT.out.z.lt
          have x0 := HT.out.cx 0
          have x1 := HT.out.cx 1
          have x2 := HT.out.cx 2
          have x3 := HT.out.cx 3
          have x4 := HT.out.cx 4
          have x5 := HT.out.cx 5
          have x6 := HT.out.cx 6
          have x7 := HT.out.cx 7
          have xf := HT.out.x.frozen
          have xl := HT.out.x.lt
          simp only [List.getElem?_toArray, List.getElem?_cons_zero, List.getElem?_cons_succ] at z0 z1 z2 z3 z4 z5 z6 z7 x0 x1 x2 x3 x4 x5 x6 x7
          have e1 := HT.out.zx
          have e2 : ¬ w.heap.size + 1 = w.heap.size := by omega

          clear hB2
          go_wp2
          go_region
          obtain ⟨wb, hwb⟩ : ∃ wb, wb = ((((((w2.setCell ⟨w.heap.size + 1, 0, none⟩ (.int .i64 3)).setCell ⟨w.heap.size + 1, 3, none⟩ (.int .u64 0)).setCell ⟨w.heap.size + 1, 4, none⟩ (.int .u64 0)).setCell ⟨w.heap.size + 1, 5, none⟩ (.int .u64 0)).setCell ⟨w.heap.size + 1, 6, none⟩ (.int .u64 0)).alloc (.cells #[.int .u64 0, .int .u64 0, .int .u64 0, .int .u64 0] 33)).drew := ⟨_, rfl⟩
          have HT : Hid (WW wb w w.heap.size (w.heap.size + 1) m 3 ⟨#[]⟩ (0#256) 0) := Lib.hid (by rw [hwb]; exact (((HT.out.setK 3).setS 0#256).alloc _).drew)
          rw [← hwb]
          clear hwb z0 z1 z2 z3 z4 z5 z6 z7 zf zl x0 x1 x2 x3 x4 x5 x6 x7 xf xl e1 e2
          have z0 := HT.out.cz 0
          have z1 := HT.out.cz 1
          have z2 := HT.out.cz 2
          have z3 := HT.out.cz 3
          have z4 := HT.out.cz 4
          have z5 := HT.out.cz 5
          have z6 := HT.out.cz 6
          have z7 := HT.out.cz 7
          have zf := HT.out.z.frozen
          have zl := HT.out.z.lt
          have x0 := HT.out.cx 0
          have x1 := HT.out.cx 1
          have x2 := HT.out.cx 2
          have x3 := HT.out.cx 3
          have x4 := HT.out.cx 4
          have x5 := HT.out.cx 5
          have x6 := HT.out.cx 6
          have x7 := HT.out.cx 7
          have xf := HT.out.x.frozen
          have xl := HT.out.x.lt
          simp only [List.getElem?_toArray, List.getElem?_cons_zero, List.getElem?_cons_succ] at z0 z1 z2 z3 z4 z5 z6 z7 x0 x1 x2 x3 x4 x5 x6 x7
          have e1 := HT.out.zx
          have e2 : ¬ w.heap.size + 1 = w.heap.size := by omega

          go_wp2
          all_goals go_wp2
          all_goals (refine bodyPost_ret (v := .tuple #[wordV ⟨3, ⟨#[]⟩, 0#256, 0⟩ m, .int .i64 ((q + 1 : Nat) : Int), .bool false]) (by simp [results, Tryz.results24, go_sem, wordV, wordC, wz.1, wz.2.1, wz.2.2.1, wz.2.2.2, z0, z1, z2, z3, z4, z5, z6, z7]) rfl (HPost.out false ⟨3, ⟨#[]⟩, 0#256, 0⟩ (q + 1) _ hq1 ?_ HN.out))
          all_goals repeat (first | with_reducible exact HT.out.b | with_reducible refine Below.drew ?_ | with_reducible refine bset ?_ (Nat.le_refl _) _ | with_reducible refine bset ?_ (Nat.le_succ _) _)

      · have d3 : ((y : Int) != 93) = true := by rw [bne_iff_ne]; omega
        by_cases c92 : y = 92
        · have d4 : ((y : Int) == 92) = true := by rw [beq_iff_eq]; omega
          have hR2 : Hid (setL (s.data.toList.drop m) = ofs ((q + 2) - m) (setL (s.data.toList.drop (q + 2)))) := Lib.hid (by
            rw [hR.out, hd, setL_cons, ← hy, if_pos c92, ← List.drop_drop (i := 1) (j := q + 1), show q + 2 - m = (q - m) + 2 by omega]
            generalize s.data.toList.drop (q + 1) = r
            match r with
            | [] => simp [setL, ofs]
            | x :: r' => exact ofs_two (q - m) (setL r'))
          clear hR hd hy
          go_wp2
          go_roundw
          case rel => exact ⟨q + 2, by go_num, by omega, by omega, hR2, by first | rfl | trivial⟩
          case measure => simp [intOf]; omega
        · have d4 : ((y : Int) == 92) = false := by rw [beq_eq_false_iff_ne]; omega
          have hR2 : Hid (setL (s.data.toList.drop m) = ofs ((q + 1) - m) (setL (s.data.toList.drop (q + 1)))) := Lib.hid (by
            rw [hR.out, hd, setL_cons, ← hy, if_neg c92, if_neg c93, show q + 1 - m = (q - m) + 1 by omega, ofs_one])
          clear hR hd hy
          go_wp2
          go_roundw
          case rel => exact ⟨q + 1, by go_num, by omega, by omega, hR2, by first | rfl | trivial⟩
          case measure => simp [intOf]; omega
    · have n4 : ¬ (q : Int) < (s.size : Int) := by omega
      have HR : Hid (setL (s.data.toList.drop m) = 0) := Lib.hid (by
        rw [hR.out, drop_end s q (by omega)]; rfl)
      clear hR
      have q3 : (s.size : Int) ≤ (q : Int) := by omega
      have HN : Hid (nextW (s.data.toList.drop m) = (if false then some ((⟨0, ⟨#[]⟩, 0#256, 0⟩ : Wd), m - m) else none)) := Lib.hid (by
        rw [HNx.out]; unfold setO; rw [HR.out, List.take_zero, hexs_none_nil]; rfl)
      have hq1 : m ≤ m := Nat.le_refl _
      have HT := HW
      have z0 := HT.out.cz 0
      have z1 := HT.out.cz 1
      have z2 := HT.out.cz 2
      have z3 := HT.out.cz 3
      have z4 := HT.out.cz 4
      have z5 := HT.out.cz 5
      have z6 := HT.out.cz 6
      have z7 := HT.out.cz 7
      have zf := HT.out.z.frozen
      have zl := HT.out.z.lt
      have x0 := HT.out.cx 0
      have x1 := HT.out.cx 1
      have x2 := HT.out.cx 2
      have x3 := HT.out.cx 3
      have x4 := HT.out.cx 4
      have x5 := HT.out.cx 5
      have x6 := HT.out.cx 6
      have x7 := HT.out.cx 7
      have xf := HT.out.x.frozen
      have xl := HT.out.x.lt
      simp only [List.getElem?_toArray, List.getElem?_cons_zero, List.getElem?_cons_succ] at z0 z1 z2 z3 z4 z5 z6 z7 x0 x1 x2 x3 x4 x5 x6 x7
      have e1 := HT.out.zx
      have e2 : ¬ w.heap.size + 1 = w.heap.size := by omega

      go_wp2

      all_goals go_wp2
      all_goals (refine bodyPost_ret (v := .tuple #[wordV ⟨0, ⟨#[]⟩, 0#256, 0⟩ m, .int .i64 ((m : Nat) : Int), .bool false]) (by simp [results, Tryz.results24, go_sem, wordV, wordC, wz.1, wz.2.1, wz.2.2.1, wz.2.2.2, z0, z1, z2, z3, z4, z5, z6, z7]) rfl (HPost.out false ⟨0, ⟨#[]⟩, 0#256, 0⟩ (m) _ hq1 ?_ HN.out))
      all_goals repeat (first | with_reducible exact HT.out.b | with_reducible refine Below.drew ?_ | with_reducible refine bset ?_ (Nat.le_refl _) _ | with_reducible refine bset ?_ (Nat.le_succ _) _)
end Go.Proofs.YtdodkbpagbblmaaGreatDoor
end
