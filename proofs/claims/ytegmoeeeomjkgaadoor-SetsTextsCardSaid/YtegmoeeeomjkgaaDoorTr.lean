import Derived.Deep.DeepCutAuto
import Derived.Test.YtegmoeeeomjkgaaDoorTi
import Derived.Test.YtegmoeeeomjkgaaDoorRefC
import Derived.Test.YtegmoeeeomjkgaaDoorU
namespace Go.Proofs.YtegmoeeeomjkgaaDoor
open Go Go.RowKit

set_option maxRecDepth 100000 in
set_option maxHeartbeats 16000000 in
theorem rread_any (s : ByteArray) (hs : s.size ≤ 2000) (w : World) :
    Calls Tryd.prog 37 #[.string s] w fun e w' => e = .returned (readV (readS s.data.toList)) ∧ Below w.heap.size w w' := by
  have hZ0 := Lib.hid (Blk.new w 29 zcs)
  have hB0 : Hid (Below w.heap.size w (w.alloc (.cells zcs 29))) := (Below.refl _ w).alloc (Nat.le_refl _) _
  by_cases h2 : s.size < 2
  · have HV0 := Lib.hid (readS_short s.data.toList (by rw [← Lib.size_eq]; exact h2))
    have k2 : (s.size : Int) < 2 := by omega
    go_enter Tryd.func37, Tryd.ntmps37
    have hZ := hZ0
    have hB := hB0
    have HV : Hid (readS s.data.toList = none) := HV0
    have z0 : (w.alloc (.cells #[.int .u64 0, .int .u64 0, .int .u64 0, .int .u64 0] 29)).cell? ⟨w.heap.size, 0, none⟩ = some (.int .u64 0) := Blk.cell hZ.out 0
    have z1 : (w.alloc (.cells #[.int .u64 0, .int .u64 0, .int .u64 0, .int .u64 0] 29)).cell? ⟨w.heap.size, 1, none⟩ = some (.int .u64 0) := Blk.cell hZ.out 1
    have z2 : (w.alloc (.cells #[.int .u64 0, .int .u64 0, .int .u64 0, .int .u64 0] 29)).cell? ⟨w.heap.size, 2, none⟩ = some (.int .u64 0) := Blk.cell hZ.out 2
    have z3 : (w.alloc (.cells #[.int .u64 0, .int .u64 0, .int .u64 0, .int .u64 0] 29)).cell? ⟨w.heap.size, 3, none⟩ = some (.int .u64 0) := Blk.cell hZ.out 3
    have fz : ∀ i, (w.alloc (.cells #[.int .u64 0, .int .u64 0, .int .u64 0, .int .u64 0] 29)).frozen? ⟨w.heap.size, i, none⟩ = false := Blk.frozen hZ.out
    clear HV0 h2 hZ0 hB0
    go_wp2
    have y := Blk.set4 hZ.out (.int .u64 0) (.int .u64 0) (.int .u64 0) (.int .u64 0)
    have y0 := y.cell 0
    have y1 := y.cell 1
    have y2 := y.cell 2
    have y3 := y.cell 3
    refine bodyPost_ret (v := .tuple #[.agg #[.int .u64 0, .int .u64 0, .int .u64 0, .int .u64 0], .int .i64 120]) (by simp [results, Tryd.results37, go_sem, y0, y1, y2, y3]) rfl ⟨by rw [HV.out]; rfl, ?_⟩
    first | exact below_set4 hB.out (Nat.le_refl _) _ _ _ _ | exact hB.out
  · have k2 : ¬ (s.size : Int) < 2 := by omega
    have hx0 : 0 < s.size := by omega
    have hx1 : 1 < s.size := by omega
    have hl0 := drop_cons s 0 hx0
    rw [List.drop_zero] at hl0
    by_cases h91 : s[0] = 91
    · obtain ⟨neg, hneg⟩ : ∃ neg, ((s[1].toNat : Int) == 94) = neg := ⟨_, rfl⟩
      obtain ⟨A0, hA0⟩ : ∃ A0, A0 = if s[1] = 94 then 2 else 1 := ⟨_, rfl⟩
      have hl1 := drop_cons s 1 hx1
      rw [Nat.zero_add, hl1, h91] at hl0
      have hnd : (s[1] == 94) = neg := by
        rw [← hneg, Bool.eq_iff_iff, beq_iff_eq, beq_iff_eq]
        constructor
        · intro e; rw [e]; rfl
        · intro e; exact UInt8.toNat_inj.1 (by show s[1].toNat = 94; omega)
      have hRS : readS s.data.toList = restS neg (readItems ((s.data.toList.drop A0).length + 1) 0#256 (s.data.toList.drop A0)) := by
        rw [readS_rest s.data.toList s[1] (s.data.toList.drop (1 + 1)) hl0, hnd, hA0]
      have HA : Hid ((neg = true ∧ A0 = 2) ∨ (neg = false ∧ A0 = 1)) := by
        refine Lib.hid ?_
        rw [hA0, ← hnd]
        by_cases h : s[1] = 94
        · left; simp [h]
        · right; simp [h]
      have hA2 : A0 ≤ 2 := by rcases HA.out with ⟨_, h⟩ | ⟨_, h⟩ <;> omega
      have k91 : ((s[0].toNat : Int) == 91) = true := by rw [h91]; rfl
      obtain ⟨T, hT⟩ : ∃ T, T = readItems ((s.data.toList.drop A0).length + 1) 0#256 (s.data.toList.drop A0) := ⟨_, rfl⟩
      rw [← hT] at hRS
      have HRS := Lib.hid hRS
      have HT := Lib.hid hT
      clear hRS hT hl0 hl1 h91 hA0 hnd h2
      go_enter Tryd.func37, Tryd.ntmps37
      go_upto_if 24 with fail
      go_cut [4] (fun s4 wx => s4 = .int .i64 A0 ∧ wx = w.alloc (.cells zcs 29))
      case first =>
        rcases HA.out with ⟨rfl, rfl⟩ | ⟨rfl, rfl⟩
        · go_wp2_with fail
          go_meet
          exact ⟨rfl, rfl⟩
        · go_wp2_with fail
          go_meet
          exact ⟨rfl, rfl⟩
      case rest =>
        obtain ⟨rfl, rfl⟩ := hcut
        clear hneg
        go_wp2
        have hU0 := Blk.new (w.alloc (.cells zcs 29)) 29 zcs
        rw [World.size_alloc] at hU0
        have hU1 : Hid (Blk ((w.alloc (.cells zcs 29)).alloc (.cells zcs 29)) (w.heap.size + 1) 29 (cset 0#256)) := Lib.hid (by rw [cset_zero]; exact hU0)
        have hZ1 : Hid (Blk ((w.alloc (.cells zcs 29)).alloc (.cells zcs 29)) w.heap.size 29 zcs) := hZ0.out.alloc _
        have hB1 : Hid (Below w.heap.size w ((w.alloc (.cells zcs 29)).alloc (.cells zcs 29))) := hB0.out.alloc (by simp) _
        clear hU0 hZ0 hB0
        go_loopw [4] (fun i wr => ∃ (n : Nat) (u : BS), i = .int .i64 n ∧ n ≤ s.size ∧ Hid (readItems ((s.data.toList.drop n).length + 1) u (s.data.toList.drop n) = T) ∧ Hid (Blk wr w.heap.size 29 zcs) ∧ Hid (Blk wr (w.heap.size + 1) 29 (cset u)) ∧ Hid (Below w.heap.size w wr))
          (fun i _ => s.size - (intOf i).toNat)
        case atStart => exact ⟨A0, 0#256, rfl, by omega, HT.out.symm, hZ1, hU1, hB1⟩
        case round =>
          clear hU1 hZ1 hB1 HT
          obtain ⟨n, u, rfl, hn, hIt, hZ, hU, hB⟩ := hrel
          by_cases hns : n < s.size
          · have hcons := drop_cons s n hns
            by_cases k93 : s[n].toNat = 93
            · have e93 : ((s[n].toNat : Int) == 93) = true := by simp; omega
              have h93 : s[n] = 93 := UInt8.toNat_inj.1 (by show s[n].toNat = 93; omega)
              by_cases hlast : n + 1 = s.size
              · have hTs : T = some u := by
                  rw [← hIt.out, hcons, h93, List.drop_eq_nil_of_le (by rw [← Lib.size_eq]; omega)]
                  exact items_end u
                have q1 : ((n : Int) == (s.size : Int) - 1) = true := by simp; omega
                have HV0 : Hid (readS s.data.toList = restS neg (some u)) := Lib.hid (by rw [HRS.out, hTs])
                clear hTs hIt HRS HA hcons h93 k93
                have c0 : wr.cell? ⟨w.heap.size + 1, 0, none⟩ = some (.int .u64 (wdI u 0)) := hU.out.cell 0
                have c1 : wr.cell? ⟨w.heap.size + 1, 1, none⟩ = some (.int .u64 (wdI u 1)) := hU.out.cell 1
                have c2 : wr.cell? ⟨w.heap.size + 1, 2, none⟩ = some (.int .u64 (wdI u 2)) := hU.out.cell 2
                have c3 : wr.cell? ⟨w.heap.size + 1, 3, none⟩ = some (.int .u64 (wdI u 3)) := hU.out.cell 3
                cases neg with
                | false =>
                  have HV : Hid (readV (readS s.data.toList) = .tuple #[vset u, .int .i64 0]) := Lib.hid (by rw [HV0.out]; rfl)
                  clear HV0
                  have z0 : wr.cell? ⟨w.heap.size, 0, none⟩ = some (.int .u64 0) := Blk.cell hZ.out 0
                  have z1 : wr.cell? ⟨w.heap.size, 1, none⟩ = some (.int .u64 0) := Blk.cell hZ.out 1
                  have z2 : wr.cell? ⟨w.heap.size, 2, none⟩ = some (.int .u64 0) := Blk.cell hZ.out 2
                  have z3 : wr.cell? ⟨w.heap.size, 3, none⟩ = some (.int .u64 0) := Blk.cell hZ.out 3
                  have fz : ∀ i, wr.frozen? ⟨w.heap.size, i, none⟩ = false := Blk.frozen hZ.out
                  go_wp2
                  have y := Blk.set4 hZ.out (.int .u64 (wdI u 0)) (.int .u64 (wdI u 1)) (.int .u64 (wdI u 2)) (.int .u64 (wdI u 3))
                  have y0 := y.cell 0
                  have y1 := y.cell 1
                  have y2 := y.cell 2
                  have y3 := y.cell 3
                  refine bodyPost_ret (v := .tuple #[.agg #[.int .u64 (wdI u 0), .int .u64 (wdI u 1), .int .u64 (wdI u 2), .int .u64 (wdI u 3)], .int .i64 0]) (by simp [results, Tryd.results37, go_sem, y0, y1, y2, y3]) rfl ⟨by rw [HV.out]; rfl, ?_⟩
                  exact below_set4 hB.out (Nat.le_refl _) _ _ _ _
                | true =>
                  have HV : Hid (readV (readS s.data.toList) = .tuple #[vset (~~~u), .int .i64 0]) := Lib.hid (by rw [HV0.out]; rfl)
                  have KN := rnot_any u
                  obtain ⟨nu, hnu⟩ : ∃ nu, nu = ~~~u := ⟨_, rfl⟩
                  rw [← hnu] at HV KN
                  clear HV0 hnu
                  unfold vset at KN
                  have HN := fun w' => Lib.hid (KN w')
                  clear KN
                  go_wp2_with fail
                  refine (HN _).out.mono ?_
                  rintro e w2 ⟨rfl, hB2⟩
                  have hZ2 := hZ.out.below hB2 hZ.out.lt
                  have hU2 := Lib.hid (hU.out.below hB2 hU.out.lt)
                  have hBB := hB.out.trans (hB2.mono hB.out.size)
                  clear hZ hU hB HN c0 c1 c2 c3 hB2
                  have hZ := Lib.hid hZ2
                  have hB := Lib.hid hBB
                  clear hZ2 hBB
                  have c0 : w2.cell? ⟨w.heap.size + 1, 0, none⟩ = some (.int .u64 (wdI u 0)) := hU2.out.cell 0
                  have c1 : w2.cell? ⟨w.heap.size + 1, 1, none⟩ = some (.int .u64 (wdI u 1)) := hU2.out.cell 1
                  have c2 : w2.cell? ⟨w.heap.size + 1, 2, none⟩ = some (.int .u64 (wdI u 2)) := hU2.out.cell 2
                  have c3 : w2.cell? ⟨w.heap.size + 1, 3, none⟩ = some (.int .u64 (wdI u 3)) := hU2.out.cell 3
                  have f1 : ∀ i, w2.frozen? ⟨w.heap.size + 1, i, none⟩ = false := hU2.out.frozen
                  have z0 : w2.cell? ⟨w.heap.size, 0, none⟩ = some (.int .u64 0) := Blk.cell hZ.out 0
                  have z1 : w2.cell? ⟨w.heap.size, 1, none⟩ = some (.int .u64 0) := Blk.cell hZ.out 1
                  have z2 : w2.cell? ⟨w.heap.size, 2, none⟩ = some (.int .u64 0) := Blk.cell hZ.out 2
                  have z3 : w2.cell? ⟨w.heap.size, 3, none⟩ = some (.int .u64 0) := Blk.cell hZ.out 3
                  have fz : ∀ i, w2.frozen? ⟨w.heap.size, i, none⟩ = false := Blk.frozen hZ.out
                  go_wp2
                  have hZ3 := (((Blk.other hZ.out (a := ⟨w.heap.size + 1, 0, none⟩) (by simp) (.int .u64 (wdI nu 0))).other (a := ⟨w.heap.size + 1, 1, none⟩) (by simp) (.int .u64 (wdI nu 1))).other (a := ⟨w.heap.size + 1, 2, none⟩) (by simp) (.int .u64 (wdI nu 2))).other (a := ⟨w.heap.size + 1, 3, none⟩) (by simp) (.int .u64 (wdI nu 3))
                  have y := Blk.set4 hZ3 (.int .u64 (wdI nu 0)) (.int .u64 (wdI nu 1)) (.int .u64 (wdI nu 2)) (.int .u64 (wdI nu 3))
                  have y0 := y.cell 0
                  have y1 := y.cell 1
                  have y2 := y.cell 2
                  have y3 := y.cell 3
                  refine bodyPost_ret (v := .tuple #[.agg #[.int .u64 (wdI nu 0), .int .u64 (wdI nu 1), .int .u64 (wdI nu 2), .int .u64 (wdI nu 3)], .int .i64 0]) (by simp [results, Tryd.results37, go_sem, y0, y1, y2, y3]) rfl ⟨by rw [HV.out]; rfl, ?_⟩
                  exact below_set4 (below_set4 hB.out (by omega) _ _ _ _) (Nat.le_refl _) _ _ _ _
              · have hTn : T = none := by
                  rw [← hIt.out, hcons, h93]
                  have hne : s.data.toList.drop (n + 1) ≠ [] := by
                    intro e
                    have := congrArg List.length e
                    rw [List.length_drop, ← Lib.size_eq] at this
                    simp at this
                    omega
                  refine items_bad _ u (by simpa using hne) (item_none _ (by rw [byteB_93]))
                have q1 : ((n : Int) == (s.size : Int) - 1) = false := by simp; omega
                have HV0 : Hid (readS s.data.toList = none) := Lib.hid (by rw [HRS.out, hTn]; cases neg <;> rfl)
                clear hTn hIt HRS hU HA hcons h93 k93
                have HV : Hid (readS s.data.toList = none) := HV0
                have z0 : wr.cell? ⟨w.heap.size, 0, none⟩ = some (.int .u64 0) := Blk.cell hZ.out 0
                have z1 : wr.cell? ⟨w.heap.size, 1, none⟩ = some (.int .u64 0) := Blk.cell hZ.out 1
                have z2 : wr.cell? ⟨w.heap.size, 2, none⟩ = some (.int .u64 0) := Blk.cell hZ.out 2
                have z3 : wr.cell? ⟨w.heap.size, 3, none⟩ = some (.int .u64 0) := Blk.cell hZ.out 3
                have fz : ∀ i, wr.frozen? ⟨w.heap.size, i, none⟩ = false := Blk.frozen hZ.out
                clear HV0
                go_wp2
                have y := Blk.set4 hZ.out (.int .u64 0) (.int .u64 0) (.int .u64 0) (.int .u64 0)
                have y0 := y.cell 0
                have y1 := y.cell 1
                have y2 := y.cell 2
                have y3 := y.cell 3
                refine bodyPost_ret (v := .tuple #[.agg #[.int .u64 0, .int .u64 0, .int .u64 0, .int .u64 0], .int .i64 120]) (by simp [results, Tryd.results37, go_sem, y0, y1, y2, y3]) rfl ⟨by rw [HV.out]; rfl, ?_⟩
                first | exact below_set4 hB.out (Nat.le_refl _) _ _ _ _ | exact hB.out
            · have e93 : ((s[n].toNat : Int) == 93) = false := by simp; omega
              have hne : s.data.toList.drop n ≠ [93] := by
                rw [hcons]
                intro e
                have h := (List.cons.inj e).1
                exact k93 (by rw [h]; rfl)
              obtain ⟨b1, k1, hbk⟩ : ∃ b1 k1, byteB (s.data.toList.drop n) = (b1, k1) := ⟨_, _, rfl⟩
              have hblt := byteB_lt (s.data.toList.drop n)
              rw [hbk, List.length_drop, ← Lib.size_eq] at hblt
              obtain ⟨hb1, hk1⟩ := hblt
              dsimp only at hb1 hk1
              have HBy0 := rbyte_any s n hn hs
              by_cases hk0 : k1 = 0
              · have hTn : T = none := by
                  rw [← hIt.out]
                  exact items_bad _ u hne (item_none _ (by rw [hbk]; exact hk0))
                have hV1 : rbyteV s.data.toList n = .tuple #[.int .i64 (-1), .int .i64 n] := by
                  unfold rbyteV; rw [hbk, if_pos hk0]
                rw [hV1] at HBy0
                have HBy := fun w' => Lib.hid (HBy0 w')
                have HV0 : Hid (readS s.data.toList = none) := Lib.hid (by rw [HRS.out, hTn]; cases neg <;> rfl)
                clear hTn hIt HRS hcons k93 hne hbk hV1 HBy0 HA
                go_wp2_with fail
                refine (HBy _).out.mono ?_
                rintro e w1 ⟨rfl, hBc⟩
                have hZn := hZ.out.below hBc hZ.out.lt
                have hUn := hU.out.below hBc hU.out.lt
                have hBn := hB.out.trans (hBc.mono hB.out.size)
                clear hZ hU hB hBc
                have hZ := Lib.hid hZn
                have hU := Lib.hid hUn
                have hB := Lib.hid hBn
                clear hZn hUn hBn
                have HV : Hid (readS s.data.toList = none) := HV0
                have z0 : w1.cell? ⟨w.heap.size, 0, none⟩ = some (.int .u64 0) := Blk.cell hZ.out 0
                have z1 : w1.cell? ⟨w.heap.size, 1, none⟩ = some (.int .u64 0) := Blk.cell hZ.out 1
                have z2 : w1.cell? ⟨w.heap.size, 2, none⟩ = some (.int .u64 0) := Blk.cell hZ.out 2
                have z3 : w1.cell? ⟨w.heap.size, 3, none⟩ = some (.int .u64 0) := Blk.cell hZ.out 3
                have fz : ∀ i, w1.frozen? ⟨w.heap.size, i, none⟩ = false := Blk.frozen hZ.out
                clear HV0 HBy
                go_wp2
                have y := Blk.set4 hZ.out (.int .u64 0) (.int .u64 0) (.int .u64 0) (.int .u64 0)
                have y0 := y.cell 0
                have y1 := y.cell 1
                have y2 := y.cell 2
                have y3 := y.cell 3
                refine bodyPost_ret (v := .tuple #[.agg #[.int .u64 0, .int .u64 0, .int .u64 0, .int .u64 0], .int .i64 120]) (by simp [results, Tryd.results37, go_sem, y0, y1, y2, y3]) rfl ⟨by rw [HV.out]; rfl, ?_⟩
                first | exact below_set4 hB.out (Nat.le_refl _) _ _ _ _ | exact hB.out

              · have hV1 : rbyteV s.data.toList n = .tuple #[.int .i64 b1, .int .i64 ((n + k1 : Nat) : Int)] := by
                  unfold rbyteV; rw [hbk, if_neg hk0]
                rw [hV1] at HBy0
                have HBy := fun w' => Lib.hid (HBy0 w')
                have hdd : (s.data.toList.drop n).drop k1 = s.data.toList.drop (n + k1) := by rw [List.drop_drop]
                clear hV1 HBy0
                obtain ⟨P, hP⟩ : ∃ P, P = n + k1 := ⟨_, rfl⟩
                rw [← hP] at HBy hdd
                have hPs : P ≤ s.size := by omega
                have hPn : n < P := by omega
                have HP := Lib.hid hP
                clear hP
                by_cases hPl : P < s.size
                · have hPc := drop_cons s P hPl
                  by_cases k45 : s[P].toNat = 45
                  · have e45 : ((s[P].toNat : Int) == 45) = true := by simp; omega
                    have hpre : Lib.hasPrefix ((s.data.toList.drop n).drop k1) [45] = true := by
                      rw [hdd, hPc, pre1_cons, beq_iff_eq]
                      exact UInt8.toNat_inj.1 (by show s[P].toNat = 45; omega)
                    obtain ⟨b2, k2, hbk2⟩ : ∃ b2 k2, byteB (s.data.toList.drop (P + 1)) = (b2, k2) := ⟨_, _, rfl⟩
                    have hblt2 := byteB_lt (s.data.toList.drop (P + 1))
                    rw [hbk2, List.length_drop, ← Lib.size_eq] at hblt2
                    obtain ⟨hb2, hk2⟩ := hblt2
                    dsimp only at hb2 hk2
                    have hdd2 : (s.data.toList.drop n).drop (k1 + 1) = s.data.toList.drop (P + 1) := by rw [List.drop_drop, HP.out, Nat.add_assoc]
                    have HBz0 := rbyte_any s (P + 1) (by omega) hs
                    by_cases hk20 : k2 = 0
                    · have hTn : T = none := by
                        rw [← hIt.out]
                        exact items_bad _ u hne (item_wrong _ (by rw [hbk]; exact hk0) (by rw [hbk]; exact hpre) (.inl (by rw [hbk, hdd2, hbk2]; exact hk20)))
                      have hV1 : rbyteV s.data.toList (P + 1) = .tuple #[.int .i64 (-1), .int .i64 ((P + 1 : Nat) : Int)] := by
                        unfold rbyteV; rw [hbk2, if_pos hk20]
                      rw [hV1] at HBz0
                      have HBz := fun w' => Lib.hid (HBz0 w')
                      have HV0 : Hid (readS s.data.toList = none) := Lib.hid (by rw [HRS.out, hTn]; cases neg <;> rfl)
                      clear hTn hIt HRS hcons k93 hne hbk hV1 HBz0 HA hbk2 hdd hdd2 hpre hPc k45
                      go_wp2_with fail
                      refine (HBy _).out.mono ?_
                      rintro e w1 ⟨rfl, hBc⟩
                      have hZn := hZ.out.below hBc hZ.out.lt
                      have hUn := hU.out.below hBc hU.out.lt
                      have hBn := hB.out.trans (hBc.mono hB.out.size)
                      clear hZ hU hB hBc
                      have hZ := Lib.hid hZn
                      have hU := Lib.hid hUn
                      have hB := Lib.hid hBn
                      clear hZn hUn hBn

                      clear HBy
                      go_wp2_with fail
                      refine (HBz _).out.mono ?_
                      rintro e w2 ⟨rfl, hBc⟩
                      have hZn := hZ.out.below hBc hZ.out.lt
                      have hUn := hU.out.below hBc hU.out.lt
                      have hBn := hB.out.trans (hBc.mono hB.out.size)
                      clear hZ hU hB hBc
                      have hZ := Lib.hid hZn
                      have hU := Lib.hid hUn
                      have hB := Lib.hid hBn
                      clear hZn hUn hBn
                      have HV : Hid (readS s.data.toList = none) := HV0
                      have z0 : w2.cell? ⟨w.heap.size, 0, none⟩ = some (.int .u64 0) := Blk.cell hZ.out 0
                      have z1 : w2.cell? ⟨w.heap.size, 1, none⟩ = some (.int .u64 0) := Blk.cell hZ.out 1
                      have z2 : w2.cell? ⟨w.heap.size, 2, none⟩ = some (.int .u64 0) := Blk.cell hZ.out 2
                      have z3 : w2.cell? ⟨w.heap.size, 3, none⟩ = some (.int .u64 0) := Blk.cell hZ.out 3
                      have fz : ∀ i, w2.frozen? ⟨w.heap.size, i, none⟩ = false := Blk.frozen hZ.out
                      clear HV0 HBz
                      go_wp2
                      have y := Blk.set4 hZ.out (.int .u64 0) (.int .u64 0) (.int .u64 0) (.int .u64 0)
                      have y0 := y.cell 0
                      have y1 := y.cell 1
                      have y2 := y.cell 2
                      have y3 := y.cell 3
                      refine bodyPost_ret (v := .tuple #[.agg #[.int .u64 0, .int .u64 0, .int .u64 0, .int .u64 0], .int .i64 120]) (by simp [results, Tryd.results37, go_sem, y0, y1, y2, y3]) rfl ⟨by rw [HV.out]; rfl, ?_⟩
                      first | exact below_set4 hB.out (Nat.le_refl _) _ _ _ _ | exact hB.out

                    · have hV1 : rbyteV s.data.toList (P + 1) = .tuple #[.int .i64 b2, .int .i64 ((P + 1 + k2 : Nat) : Int)] := by
                        unfold rbyteV; rw [hbk2, if_neg hk20]
                      rw [hV1] at HBz0
                      have HBz := fun w' => Lib.hid (HBz0 w')
                      obtain ⟨P2, hP2⟩ : ∃ P2, P2 = P + 1 + k2 := ⟨_, rfl⟩
                      rw [← hP2] at HBz
                      have hP2s : P2 ≤ s.size := by omega
                      have hP2n : n < P2 := by omega
                      have HP2 := Lib.hid hP2
                      clear hP2 hV1 HBz0
                      by_cases hlow : b2 < b1
                      · have hTn : T = none := by
                          rw [← hIt.out]
                          exact items_bad _ u hne (item_wrong _ (by rw [hbk]; exact hk0) (by rw [hbk]; exact hpre) (.inr (by rw [hbk, hdd2, hbk2]; exact hlow)))
                        have HV0 : Hid (readS s.data.toList = none) := Lib.hid (by rw [HRS.out, hTn]; cases neg <;> rfl)
                        clear hTn hIt HRS hcons k93 hne hbk HA hbk2 hdd hdd2 hpre hPc k45
                        go_wp2_with fail
                        refine (HBy _).out.mono ?_
                        rintro e w1 ⟨rfl, hBc⟩
                        have hZn := hZ.out.below hBc hZ.out.lt
                        have hUn := hU.out.below hBc hU.out.lt
                        have hBn := hB.out.trans (hBc.mono hB.out.size)
                        clear hZ hU hB hBc
                        have hZ := Lib.hid hZn
                        have hU := Lib.hid hUn
                        have hB := Lib.hid hBn
                        clear hZn hUn hBn

                        clear HBy
                        go_wp2_with fail
                        refine (HBz _).out.mono ?_
                        rintro e w2 ⟨rfl, hBc⟩
                        have hZn := hZ.out.below hBc hZ.out.lt
                        have hUn := hU.out.below hBc hU.out.lt
                        have hBn := hB.out.trans (hBc.mono hB.out.size)
                        clear hZ hU hB hBc
                        have hZ := Lib.hid hZn
                        have hU := Lib.hid hUn
                        have hB := Lib.hid hBn
                        clear hZn hUn hBn
                        have HV : Hid (readS s.data.toList = none) := HV0
                        have z0 : w2.cell? ⟨w.heap.size, 0, none⟩ = some (.int .u64 0) := Blk.cell hZ.out 0
                        have z1 : w2.cell? ⟨w.heap.size, 1, none⟩ = some (.int .u64 0) := Blk.cell hZ.out 1
                        have z2 : w2.cell? ⟨w.heap.size, 2, none⟩ = some (.int .u64 0) := Blk.cell hZ.out 2
                        have z3 : w2.cell? ⟨w.heap.size, 3, none⟩ = some (.int .u64 0) := Blk.cell hZ.out 3
                        have fz : ∀ i, w2.frozen? ⟨w.heap.size, i, none⟩ = false := Blk.frozen hZ.out
                        clear HV0 HBz
                        go_wp2
                        have y := Blk.set4 hZ.out (.int .u64 0) (.int .u64 0) (.int .u64 0) (.int .u64 0)
                        have y0 := y.cell 0
                        have y1 := y.cell 1
                        have y2 := y.cell 2
                        have y3 := y.cell 3
                        refine bodyPost_ret (v := .tuple #[.agg #[.int .u64 0, .int .u64 0, .int .u64 0, .int .u64 0], .int .i64 120]) (by simp [results, Tryd.results37, go_sem, y0, y1, y2, y3]) rfl ⟨by rw [HV.out]; rfl, ?_⟩
                        first | exact below_set4 hB.out (Nat.le_refl _) _ _ _ _ | exact hB.out

                      · have hit := item_two (s.data.toList.drop n) (by rw [hbk]; exact hk0) (by rw [hbk]; exact hpre) (by rw [hbk, hdd2, hbk2]; exact hk20) (by rw [hbk, hdd2, hbk2]; exact hlow)
                        rw [hbk] at hit
                        dsimp only at hit
                        rw [hdd2, hbk2] at hit
                        have HNext : Hid (readItems ((s.data.toList.drop P2).length + 1) (addR u (b1, b2)) (s.data.toList.drop P2) = T) := by
                          refine Lib.hid ?_
                          have h := items_step (s.data.toList.drop n) u hne (by rw [hit]; simp)
                          rw [hit] at h
                          dsimp only at h
                          have hd3 : (s.data.toList.drop n).drop (k1 + 1 + k2) = s.data.toList.drop P2 := by
                            rw [List.drop_drop, HP2.out, HP.out]; congr 1; omega
                          rw [hd3, hIt.out] at h
                          exact h.symm
                        clear hit hpre hdd hdd2 hbk hbk2 hIt hne hcons k93 hPc k45
                        go_wp2_with fail
                        refine (HBy _).out.mono ?_
                        rintro e w1 ⟨rfl, hBc⟩
                        have hZn := hZ.out.below hBc hZ.out.lt
                        have hUn := hU.out.below hBc hU.out.lt
                        have hBn := hB.out.trans (hBc.mono hB.out.size)
                        clear hZ hU hB hBc
                        have hZ := Lib.hid hZn
                        have hU := Lib.hid hUn
                        have hB := Lib.hid hBn
                        clear hZn hUn hBn

                        clear HBy
                        go_wp2_with fail
                        refine (HBz _).out.mono ?_
                        rintro e w2 ⟨rfl, hBc⟩
                        have hZn := hZ.out.below hBc hZ.out.lt
                        have hUn := hU.out.below hBc hU.out.lt
                        have hBn := hB.out.trans (hBc.mono hB.out.size)
                        clear hZ hU hB hBc
                        have hZ := Lib.hid hZn
                        have hU := Lib.hid hUn
                        have hB := Lib.hid hBn
                        clear hZn hUn hBn

                        clear HBz
                        go_wp2
                        obtain ⟨wo, hwo⟩ : ∃ wo : World, wo = w2 := ⟨_, rfl⟩
                        rw [← hwo] at hZ hU hB ⊢
                        clear hwo
                        go_loopw [10] (fun i wi => ∃ c m : Nat, i = .int .i64 c ∧ Hid (c = b1 + m) ∧ c ≤ 256 ∧ Hid (c ≤ b2 + 1 ∨ m = 0) ∧ Hid (Blk wi w.heap.size 29 zcs) ∧ Hid (Blk wi (w.heap.size + 1) 29 (cset (addN u b1 m))) ∧ Hid (Below w.heap.size w wi))
                          (fun i _ => 300 - (intOf i).toNat)
                        case atStart => exact ⟨b1, 0, rfl, rfl, by omega, .inr rfl, hZ, hU, hB⟩
                        case round =>
                          clear hZ hU hB
                          obtain ⟨c, m, rfl, hb, hb2, hm, hZ, hU, hB⟩ := hrel
                          by_cases hle : c ≤ b2
                          · have hw : c < 256 := by omega
                            have HW0 := rwith_any (addN u b1 m) c hw
                            have HN : Hid (withB (addN u b1 m) c = addN u b1 (m + 1)) := by rw [hb.out]; rfl
                            obtain ⟨un, hun⟩ : ∃ un, un = addN u b1 m := ⟨_, rfl⟩
                            rw [← hun] at HW0 HN hU
                            clear hun
                            rw [HN.out] at HW0
                            obtain ⟨um, hum⟩ : ∃ um, um = addN u b1 (m + 1) := ⟨_, rfl⟩
                            rw [← hum] at HW0
                            have HUM := Lib.hid hum
                            clear hum HN
                            unfold vset at HW0
                            have HW := fun w' => Lib.hid (HW0 w')
                            clear HW0
                            have c0 : wr.cell? ⟨w.heap.size + 1, 0, none⟩ = some (.int .u64 (wdI un 0)) := hU.out.cell 0
                            have c1 : wr.cell? ⟨w.heap.size + 1, 1, none⟩ = some (.int .u64 (wdI un 1)) := hU.out.cell 1
                            have c2 : wr.cell? ⟨w.heap.size + 1, 2, none⟩ = some (.int .u64 (wdI un 2)) := hU.out.cell 2
                            have c3 : wr.cell? ⟨w.heap.size + 1, 3, none⟩ = some (.int .u64 (wdI un 3)) := hU.out.cell 3
                            have hlt2 : w.heap.size + 1 < wr.heap.size := hU.out.lt
                            go_wp2_with fail
                            refine (HW _).out.mono ?_
                            rintro e w1 ⟨rfl, hB1⟩
                            have hU1 := Lib.hid (hU.out.below hB1 (by omega))
                            have hZ1 := Lib.hid (hZ.out.below hB1 (by omega))
                            have hBB := Lib.hid (hB.out.trans (hB1.mono hB.out.size))
                            clear hU hZ hB hB1 c0 c1 c2 c3 HW
                            have c0 : w1.cell? ⟨w.heap.size + 1, 0, none⟩ = some (.int .u64 (wdI un 0)) := hU1.out.cell 0
                            have c1 : w1.cell? ⟨w.heap.size + 1, 1, none⟩ = some (.int .u64 (wdI un 1)) := hU1.out.cell 1
                            have c2 : w1.cell? ⟨w.heap.size + 1, 2, none⟩ = some (.int .u64 (wdI un 2)) := hU1.out.cell 2
                            have c3 : w1.cell? ⟨w.heap.size + 1, 3, none⟩ = some (.int .u64 (wdI un 3)) := hU1.out.cell 3
                            have f0 : ∀ i, w1.frozen? ⟨w.heap.size + 1, i, none⟩ = false := hU1.out.frozen
                            go_wp2
                            go_roundw
                            case rel =>
                              refine ⟨c + 1, m + 1, by go_num, by rw [hb.out]; rfl, by omega, .inl (by omega), ?_, ?_, ?_⟩
                              · exact (((hZ1.out.other (by simp) _).other (by simp) _).other (by simp) _).other (by simp) _
                              · rw [← HUM.out]; exact hU1.out.set4 _ _ _ _
                              · exact below_set4 hBB.out (by omega) _ _ _ _
                            case measure => simp [intOf]; omega
                          · have hEq : addN u b1 m = addR u (b1, b2) := by
                              have h1 := hb.out
                              have h2 := hm.out
                              unfold addR
                              congr 1
                              dsimp only
                              omega
                            rw [hEq] at hU
                            clear hEq hb hm hb2
                            go_wp2
                            go_roundw
                            case rel => exact ⟨P2, addR u (b1, b2), by go_num, by omega, HNext, hZ, hU, hB⟩
                            case measure => simp [intOf]; omega
                  · have e45 : ((s[P].toNat : Int) == 45) = false := by simp; omega
                    have hpre : Lib.hasPrefix ((s.data.toList.drop n).drop k1) [45] = false := by
                      rw [hdd, hPc, pre1_cons, beq_eq_false_iff_ne]
                      intro e; exact k45 (by rw [e]; rfl)
                    have hit := item_one (s.data.toList.drop n) (by rw [hbk]; exact hk0) (by rw [hbk]; exact hpre)
                    rw [hbk] at hit
                    have HNext : Hid (readItems ((s.data.toList.drop P).length + 1) (addR u (b1, b1)) (s.data.toList.drop P) = T) := by
                      refine Lib.hid ?_
                      have h := items_step (s.data.toList.drop n) u hne (by rw [hit]; exact hk0)
                      rw [hit] at h
                      dsimp only at h
                      rw [hdd, hIt.out] at h
                      exact h.symm
                    clear hit hpre hdd hbk hIt hne hcons k93
                    go_wp2_with fail
                    refine (HBy _).out.mono ?_
                    rintro e w1 ⟨rfl, hBc⟩

                    have hZn := hZ.out.below hBc hZ.out.lt
                    have hUn := hU.out.below hBc hU.out.lt
                    have hBn := hB.out.trans (hBc.mono hB.out.size)
                    clear hZ hU hB hBc
                    have hZ := Lib.hid hZn
                    have hU := Lib.hid hUn
                    have hB := Lib.hid hBn
                    clear hZn hUn hBn

                    clear HBy
                    go_wp2

                    obtain ⟨wo, hwo⟩ : ∃ wo : World, wo = w1 := ⟨_, rfl⟩
                    rw [← hwo] at hZ hU hB ⊢
                    clear hwo
                    go_loopw [10] (fun i wi => ∃ c m : Nat, i = .int .i64 c ∧ Hid (c = b1 + m) ∧ c ≤ 256 ∧ Hid (c ≤ b1 + 1 ∨ m = 0) ∧ Hid (Blk wi w.heap.size 29 zcs) ∧ Hid (Blk wi (w.heap.size + 1) 29 (cset (addN u b1 m))) ∧ Hid (Below w.heap.size w wi))
                      (fun i _ => 300 - (intOf i).toNat)
                    case atStart => exact ⟨b1, 0, rfl, rfl, by omega, .inr rfl, hZ, hU, hB⟩
                    case round =>
                      clear hZ hU hB
                      obtain ⟨c, m, rfl, hb, hb2, hm, hZ, hU, hB⟩ := hrel
                      by_cases hle : c ≤ b1
                      · have hw : c < 256 := by omega
                        have HW0 := rwith_any (addN u b1 m) c hw
                        have HN : Hid (withB (addN u b1 m) c = addN u b1 (m + 1)) := by rw [hb.out]; rfl
                        obtain ⟨un, hun⟩ : ∃ un, un = addN u b1 m := ⟨_, rfl⟩
                        rw [← hun] at HW0 HN hU
                        clear hun
                        rw [HN.out] at HW0
                        obtain ⟨um, hum⟩ : ∃ um, um = addN u b1 (m + 1) := ⟨_, rfl⟩
                        rw [← hum] at HW0
                        have HUM := Lib.hid hum
                        clear hum HN
                        unfold vset at HW0
                        have HW := fun w' => Lib.hid (HW0 w')
                        clear HW0
                        have c0 : wr.cell? ⟨w.heap.size + 1, 0, none⟩ = some (.int .u64 (wdI un 0)) := hU.out.cell 0
                        have c1 : wr.cell? ⟨w.heap.size + 1, 1, none⟩ = some (.int .u64 (wdI un 1)) := hU.out.cell 1
                        have c2 : wr.cell? ⟨w.heap.size + 1, 2, none⟩ = some (.int .u64 (wdI un 2)) := hU.out.cell 2
                        have c3 : wr.cell? ⟨w.heap.size + 1, 3, none⟩ = some (.int .u64 (wdI un 3)) := hU.out.cell 3
                        have hlt2 : w.heap.size + 1 < wr.heap.size := hU.out.lt
                        go_wp2_with fail
                        refine (HW _).out.mono ?_
                        rintro e w1 ⟨rfl, hB1⟩
                        have hU1 := Lib.hid (hU.out.below hB1 (by omega))
                        have hZ1 := Lib.hid (hZ.out.below hB1 (by omega))
                        have hBB := Lib.hid (hB.out.trans (hB1.mono hB.out.size))
                        clear hU hZ hB hB1 c0 c1 c2 c3 HW
                        have c0 : w1.cell? ⟨w.heap.size + 1, 0, none⟩ = some (.int .u64 (wdI un 0)) := hU1.out.cell 0
                        have c1 : w1.cell? ⟨w.heap.size + 1, 1, none⟩ = some (.int .u64 (wdI un 1)) := hU1.out.cell 1
                        have c2 : w1.cell? ⟨w.heap.size + 1, 2, none⟩ = some (.int .u64 (wdI un 2)) := hU1.out.cell 2
                        have c3 : w1.cell? ⟨w.heap.size + 1, 3, none⟩ = some (.int .u64 (wdI un 3)) := hU1.out.cell 3
                        have f0 : ∀ i, w1.frozen? ⟨w.heap.size + 1, i, none⟩ = false := hU1.out.frozen
                        go_wp2
                        go_roundw
                        case rel =>
                          refine ⟨c + 1, m + 1, by go_num, by rw [hb.out]; rfl, by omega, .inl (by omega), ?_, ?_, ?_⟩
                          · exact (((hZ1.out.other (by simp) _).other (by simp) _).other (by simp) _).other (by simp) _
                          · rw [← HUM.out]; exact hU1.out.set4 _ _ _ _
                          · exact below_set4 hBB.out (by omega) _ _ _ _
                        case measure => simp [intOf]; omega
                      · have hEq : addN u b1 m = addR u (b1, b1) := by
                          have h1 := hb.out
                          have h2 := hm.out
                          unfold addR
                          congr 1
                          dsimp only
                          omega
                        rw [hEq] at hU
                        clear hEq hb hm hb2
                        go_wp2
                        go_roundw
                        case rel => exact ⟨P, addR u (b1, b1), by go_num, by omega, HNext, hZ, hU, hB⟩
                        case measure => simp [intOf]; omega
                · have q7 : ¬ (P : Int) < (s.size : Int) := by omega
                  have hpre : Lib.hasPrefix ((s.data.toList.drop n).drop k1) [45] = false := by
                    rw [hdd, List.drop_eq_nil_of_le (by rw [← Lib.size_eq]; omega)]; rfl
                  have hit := item_one (s.data.toList.drop n) (by rw [hbk]; exact hk0) (by rw [hbk]; exact hpre)
                  rw [hbk] at hit
                  have HNext : Hid (readItems ((s.data.toList.drop P).length + 1) (addR u (b1, b1)) (s.data.toList.drop P) = T) := by
                    refine Lib.hid ?_
                    have h := items_step (s.data.toList.drop n) u hne (by rw [hit]; exact hk0)
                    rw [hit] at h
                    dsimp only at h
                    rw [hdd, hIt.out] at h
                    exact h.symm
                  clear hit hpre hdd hbk hIt hne hcons k93
                  go_wp2_with fail
                  refine (HBy _).out.mono ?_
                  rintro e w1 ⟨rfl, hBc⟩

                  have hZn := hZ.out.below hBc hZ.out.lt
                  have hUn := hU.out.below hBc hU.out.lt
                  have hBn := hB.out.trans (hBc.mono hB.out.size)
                  clear hZ hU hB hBc
                  have hZ := Lib.hid hZn
                  have hU := Lib.hid hUn
                  have hB := Lib.hid hBn
                  clear hZn hUn hBn

                  clear HBy
                  go_wp2

                  obtain ⟨wo, hwo⟩ : ∃ wo : World, wo = w1 := ⟨_, rfl⟩
                  rw [← hwo] at hZ hU hB ⊢
                  clear hwo
                  go_loopw [10] (fun i wi => ∃ c m : Nat, i = .int .i64 c ∧ Hid (c = b1 + m) ∧ c ≤ 256 ∧ Hid (c ≤ b1 + 1 ∨ m = 0) ∧ Hid (Blk wi w.heap.size 29 zcs) ∧ Hid (Blk wi (w.heap.size + 1) 29 (cset (addN u b1 m))) ∧ Hid (Below w.heap.size w wi))
                    (fun i _ => 300 - (intOf i).toNat)
                  case atStart => exact ⟨b1, 0, rfl, rfl, by omega, .inr rfl, hZ, hU, hB⟩
                  case round =>
                    clear hZ hU hB
                    obtain ⟨c, m, rfl, hb, hb2, hm, hZ, hU, hB⟩ := hrel
                    by_cases hle : c ≤ b1
                    · have hw : c < 256 := by omega
                      have HW0 := rwith_any (addN u b1 m) c hw
                      have HN : Hid (withB (addN u b1 m) c = addN u b1 (m + 1)) := by rw [hb.out]; rfl
                      obtain ⟨un, hun⟩ : ∃ un, un = addN u b1 m := ⟨_, rfl⟩
                      rw [← hun] at HW0 HN hU
                      clear hun
                      rw [HN.out] at HW0
                      obtain ⟨um, hum⟩ : ∃ um, um = addN u b1 (m + 1) := ⟨_, rfl⟩
                      rw [← hum] at HW0
                      have HUM := Lib.hid hum
                      clear hum HN
                      unfold vset at HW0
                      have HW := fun w' => Lib.hid (HW0 w')
                      clear HW0
                      have c0 : wr.cell? ⟨w.heap.size + 1, 0, none⟩ = some (.int .u64 (wdI un 0)) := hU.out.cell 0
                      have c1 : wr.cell? ⟨w.heap.size + 1, 1, none⟩ = some (.int .u64 (wdI un 1)) := hU.out.cell 1
                      have c2 : wr.cell? ⟨w.heap.size + 1, 2, none⟩ = some (.int .u64 (wdI un 2)) := hU.out.cell 2
                      have c3 : wr.cell? ⟨w.heap.size + 1, 3, none⟩ = some (.int .u64 (wdI un 3)) := hU.out.cell 3
                      have hlt2 : w.heap.size + 1 < wr.heap.size := hU.out.lt
                      go_wp2_with fail
                      refine (HW _).out.mono ?_
                      rintro e w1 ⟨rfl, hB1⟩
                      have hU1 := Lib.hid (hU.out.below hB1 (by omega))
                      have hZ1 := Lib.hid (hZ.out.below hB1 (by omega))
                      have hBB := Lib.hid (hB.out.trans (hB1.mono hB.out.size))
                      clear hU hZ hB hB1 c0 c1 c2 c3 HW
                      have c0 : w1.cell? ⟨w.heap.size + 1, 0, none⟩ = some (.int .u64 (wdI un 0)) := hU1.out.cell 0
                      have c1 : w1.cell? ⟨w.heap.size + 1, 1, none⟩ = some (.int .u64 (wdI un 1)) := hU1.out.cell 1
                      have c2 : w1.cell? ⟨w.heap.size + 1, 2, none⟩ = some (.int .u64 (wdI un 2)) := hU1.out.cell 2
                      have c3 : w1.cell? ⟨w.heap.size + 1, 3, none⟩ = some (.int .u64 (wdI un 3)) := hU1.out.cell 3
                      have f0 : ∀ i, w1.frozen? ⟨w.heap.size + 1, i, none⟩ = false := hU1.out.frozen
                      go_wp2
                      go_roundw
                      case rel =>
                        refine ⟨c + 1, m + 1, by go_num, by rw [hb.out]; rfl, by omega, .inl (by omega), ?_, ?_, ?_⟩
                        · exact (((hZ1.out.other (by simp) _).other (by simp) _).other (by simp) _).other (by simp) _
                        · rw [← HUM.out]; exact hU1.out.set4 _ _ _ _
                        · exact below_set4 hBB.out (by omega) _ _ _ _
                      case measure => simp [intOf]; omega
                    · have hEq : addN u b1 m = addR u (b1, b1) := by
                        have h1 := hb.out
                        have h2 := hm.out
                        unfold addR
                        congr 1
                        dsimp only
                        omega
                      rw [hEq] at hU
                      clear hEq hb hm hb2
                      go_wp2
                      go_roundw
                      case rel => exact ⟨P, addR u (b1, b1), by go_num, by omega, HNext, hZ, hU, hB⟩
                      case measure => simp [intOf]; omega
          · have hTn : T = none := by
              rw [← hIt.out, List.drop_eq_nil_of_le (by rw [← Lib.size_eq]; omega)]
              exact items_bad [] u (by simp) rfl
            have q1 : ((n : Int) == (s.size : Int) - 1) = false := by simp; omega
            have HV0 : Hid (readS s.data.toList = none) := Lib.hid (by rw [HRS.out, hTn]; cases neg <;> rfl)
            clear hTn hIt HRS hU HA

            have HV : Hid (readS s.data.toList = none) := HV0
            have z0 : wr.cell? ⟨w.heap.size, 0, none⟩ = some (.int .u64 0) := Blk.cell hZ.out 0
            have z1 : wr.cell? ⟨w.heap.size, 1, none⟩ = some (.int .u64 0) := Blk.cell hZ.out 1
            have z2 : wr.cell? ⟨w.heap.size, 2, none⟩ = some (.int .u64 0) := Blk.cell hZ.out 2
            have z3 : wr.cell? ⟨w.heap.size, 3, none⟩ = some (.int .u64 0) := Blk.cell hZ.out 3
            have fz : ∀ i, wr.frozen? ⟨w.heap.size, i, none⟩ = false := Blk.frozen hZ.out
            clear HV0
            go_wp2
            have y := Blk.set4 hZ.out (.int .u64 0) (.int .u64 0) (.int .u64 0) (.int .u64 0)
            have y0 := y.cell 0
            have y1 := y.cell 1
            have y2 := y.cell 2
            have y3 := y.cell 3
            refine bodyPost_ret (v := .tuple #[.agg #[.int .u64 0, .int .u64 0, .int .u64 0, .int .u64 0], .int .i64 120]) (by simp [results, Tryd.results37, go_sem, y0, y1, y2, y3]) rfl ⟨by rw [HV.out]; rfl, ?_⟩
            first | exact below_set4 hB.out (Nat.le_refl _) _ _ _ _ | exact hB.out
    · have HV0 := Lib.hid (readS_head _ _ _ hl0 h91)
      have k91 : ((s[0].toNat : Int) == 91) = false := by
        rw [beq_eq_false_iff_ne]
        intro e
        exact h91 (UInt8.toNat_inj.1 (by show s[0].toNat = 91; omega))
      clear hl0 h91
      go_enter Tryd.func37, Tryd.ntmps37
      have hZ := hZ0
      have hB := hB0
      have HV : Hid (readS s.data.toList = none) := HV0
      have z0 : (w.alloc (.cells #[.int .u64 0, .int .u64 0, .int .u64 0, .int .u64 0] 29)).cell? ⟨w.heap.size, 0, none⟩ = some (.int .u64 0) := Blk.cell hZ.out 0
      have z1 : (w.alloc (.cells #[.int .u64 0, .int .u64 0, .int .u64 0, .int .u64 0] 29)).cell? ⟨w.heap.size, 1, none⟩ = some (.int .u64 0) := Blk.cell hZ.out 1
      have z2 : (w.alloc (.cells #[.int .u64 0, .int .u64 0, .int .u64 0, .int .u64 0] 29)).cell? ⟨w.heap.size, 2, none⟩ = some (.int .u64 0) := Blk.cell hZ.out 2
      have z3 : (w.alloc (.cells #[.int .u64 0, .int .u64 0, .int .u64 0, .int .u64 0] 29)).cell? ⟨w.heap.size, 3, none⟩ = some (.int .u64 0) := Blk.cell hZ.out 3
      have fz : ∀ i, (w.alloc (.cells #[.int .u64 0, .int .u64 0, .int .u64 0, .int .u64 0] 29)).frozen? ⟨w.heap.size, i, none⟩ = false := Blk.frozen hZ.out
      clear HV0 h2 hZ0 hB0
      go_wp2
      have y := Blk.set4 hZ.out (.int .u64 0) (.int .u64 0) (.int .u64 0) (.int .u64 0)
      have y0 := y.cell 0
      have y1 := y.cell 1
      have y2 := y.cell 2
      have y3 := y.cell 3
      refine bodyPost_ret (v := .tuple #[.agg #[.int .u64 0, .int .u64 0, .int .u64 0, .int .u64 0], .int .i64 120]) (by simp [results, Tryd.results37, go_sem, y0, y1, y2, y3]) rfl ⟨by rw [HV.out]; rfl, ?_⟩
      first | exact below_set4 hB.out (Nat.le_refl _) _ _ _ _ | exact hB.out
end Go.Proofs.YtegmoeeeomjkgaaDoor
