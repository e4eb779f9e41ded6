import Derived.RangeFuncLeaves
import Derived.RangeFuncKeeps
import Derived.RangeFuncWrites
import Derived.RangeFuncNested
import Derived.OwnWalkIn
import Derived.TacticsInMore
import Derived.LoopNIn
import Derived.LoopIn
import Derived.Laws.AppendOwnNone
import Derived.Deep.DeepCutAuto
import Derived.Deep.RegionHeld3
import Derived.Test.YtdodkbpagbblmaaGreatDoorM3
import Derived.Test.YtdodkbpagbblmaaGreatDoorM6
import Derived.Test.YtdodkbpagbblmaaGreatDoorM7
import Derived.Test.YtdodkbpagbblmaaGreatDoorM8
import Derived.Test.YtdodkbpagbblmaaGreatDoorM9
section
namespace Go.Proofs.YtdodkbpagbblmaaGreatDoor
open Go Go.RowKit
/-! A number. -/
set_option maxRecDepth 100000 in
set_option maxHeartbeats 16000000 in
theorem word_num (s : ByteArray) (m : Nat) (hs : s.size ≤ 5000) (hm : m < s.size) (w : World) (b : Nat) (hi : ∀ h, (s[m]'h).toNat = b) (hLt : (letB b || decide (b = 95)) = false) (c34 : ¬ b = 34) (c91 : ¬ b = 91) (hdg : digB b = true) :
    Calls Tryz.prog 24 #[.string s, .int .i64 m] w (WordP s m w) := by
  have hb256 : b < 256 := by rw [← hi hm]; exact (s[m]'hm).toNat_lt
  have hdr := Lib.hid (drop_at s m hm)
  have HNW := Lib.hid (nextW_of _ _ _ hdr.out b (hi hm))
  have n1 : (m : Int) < (s.size : Int) := by omega
  have n3 : (0 : Int) ≤ (m : Int) := by omega
  obtain ⟨wa, hwa⟩ : ∃ wa, wa = (w.alloc (.cells #[.int .i64 0, .int .i64 0, .string ⟨#[]⟩, .int .u64 0, .int .u64 0, .int .u64 0, .int .u64 0, .int .i64 0] 35)).alloc (.cells #[.int .i64 0, .int .i64 (m : Int), .string ⟨#[]⟩, .int .u64 0, .int .u64 0, .int .u64 0, .int .u64 0, .int .i64 0] 35) := ⟨_, rfl⟩
  have hww : WW wa w w.heap.size (w.heap.size + 1) m 0 ⟨#[]⟩ 0#256 0 := by
    have h1 := Blk.new (w.alloc (.cells #[.int .i64 0, .int .i64 0, .string ⟨#[]⟩, .int .u64 0, .int .u64 0, .int .u64 0, .int .u64 0, .int .i64 0] 35)) 35 #[.int .i64 0, .int .i64 (m : Int), .string ⟨#[]⟩, .int .u64 0, .int .u64 0, .int .u64 0, .int .u64 0, .int .i64 0]
    rw [World.size_alloc, ← hwa] at h1
    refine ⟨?_, ?_, ?_, by omega, Nat.le_refl _, by omega⟩
    · rw [hwa]; exact (Blk.new w 35 _).alloc _
    · rw [wz.1, wz.2.1, wz.2.2.1, wz.2.2.2]; exact h1
    · rw [hwa]; exact ((Below.refl _ w).alloc (Nat.le_refl _) _).alloc (by simp) _
  have HPost : Hid (∀ (ok : Bool) (x : Wd) (n : Nat) (w' : World), m ≤ n → Below w.heap.size w w' → nextW (s.data.toList.drop m) = (if ok then some (x, n - m) else none) → WordP s m w (.returned (.tuple #[wordV x m, .int .i64 (n : Int), .bool ok])) w') := Lib.hid (fun ok x n w' hn hB h => by
    unfold WordP
    refine ⟨hB, ?_⟩
    cases ok with
    | true =>
      rw [h]
      show Ending.returned (.tuple #[wordV x m, .int .i64 (n : Int), .bool true]) = .returned (.tuple #[wordV x m, .int .i64 ((m + (n - m) : Nat) : Int), .bool true])
      rw [show m + (n - m) = n by omega]
    | false =>
      rw [h]
      exact ⟨x, n, rfl⟩)
  have HW := Lib.hid hww
  have HWa := Lib.hid hwa
  have HL := Lib.hid (fun y (hy : y < 256) w' => letter_any y hy w')
  have HD := Lib.hid (fun y (hy : y < 256) w' => rdigit_any y hy w')
  clear hwa hww
  go_enter Tryz.func24, Tryz.ntmps24
  go_wp2_with fail
  rw [← HWa.out]
  refine (HL.out b hb256 _).mono ?_
  rw [hLt]
  rintro e w' ⟨rfl, rfl⟩
  have d1 : ((b : Int) == 34) = false := by rw [beq_eq_false_iff_ne]; omega
  have d2 : ((b : Int) == 91) = false := by rw [beq_eq_false_iff_ne]; omega
  have hDb := fun w' => Lib.hid (HD.out b hb256 w')
  rw [hdg] at hDb
  have HNx : Hid (nextW (s.data.toList.drop m) = (numO (s.data.toList.drop m)).map fun v => (⟨4, ⟨#[]⟩, 0#256, v⟩, runL (s.data.toList.drop m))) := Lib.hid (by rw [HNW.out, if_neg (by rw [hLt]; simp), if_pos hdg])
  have hv0 : Hid (Lib.decFrom 0 ((s.data.toList.drop m).take (m - m)) = some 0) := Lib.hid (by rw [Nat.sub_self]; rfl)
  have hW0 : Hid (WW wa w w.heap.size (w.heap.size + 1) m 0 ⟨#[]⟩ 0#256 ((min 0 10000000000 : Nat) : Int)) := HW
  go_wp2_with (go_at_call 36; refine (hDb _).out.mono ?_; rintro e w' ⟨rfl, rfl⟩)
  go_loopw [9] (fun i wr => ∃ q v : Nat, i = .int .i64 q ∧ m ≤ q ∧ q ≤ s.size ∧ Hid (Lib.decFrom 0 ((s.data.toList.drop m).take (q - m)) = some v) ∧ Hid (WW wr w w.heap.size (w.heap.size + 1) m 0 ⟨#[]⟩ 0#256 ((min v 10000000000 : Nat) : Int)))
    (fun i _ => s.size - (intOf i).toNat)
  case atStart => exact ⟨m, 0, rfl, Nat.le_refl _, by omega, hv0, hW0⟩
  case round =>
    clear hv0 hW0
    obtain ⟨q, v, rfl, hq1, hq2, hv, hT⟩ := hrel
    by_cases hlt : q < s.size
    · have n4 : (q : Int) < (s.size : Int) := by omega
      obtain ⟨y, hy⟩ : ∃ y, y = (s[q]'hlt).toNat := ⟨_, rfl⟩
      have hi2 : ∀ h, (s[q]'h).toNat = y := fun h => hy.symm
      have hy256 : y < 256 := by rw [hy]; exact (s[q]'hlt).toNat_lt
      have hd := drop_at s q hlt
      have hD := fun w' => Lib.hid (HD.out y hy256 w')
      cases hyd : digB y with
      | true =>
        rw [hyd] at hD
        have hy48 : 48 ≤ y ∧ y ≤ 57 := by simpa [digB] using hyd
        have hv2 : Hid (Lib.decFrom 0 ((s.data.toList.drop m).take (q + 1 - m)) = some (v * 10 + (y - 48))) := Lib.hid (by
          rw [show q + 1 - m = (q - m) + 1 by omega, hy]
          refine dec_next _ _ _ _ hv.out ?_ (by rw [← hy]; exact hyd)
          rw [List.getElem?_drop, show m + (q - m) = q by omega, ← List.head?_drop, hd]; rfl)
        obtain ⟨N, hN⟩ : ∃ N, N = min v 10000000000 := ⟨_, rfl⟩
        have hNK : N ≤ 10000000000 := by omega
        obtain ⟨d, hdd⟩ : ∃ d, d = y - 48 := ⟨_, rfl⟩
        have hd9 : d ≤ 9 := by omega
        have hu : IntKind.u8.wrap ((y : Int) - 48) = (d : Int) := by rw [IntKind.wrap_u8']; omega
        have hu2 : IntKind.i64.wrap (d : Int) = (d : Int) := IntWalk.i64_in _ (by omega)
        have hu3 : IntKind.i64.wrap (10 * (N : Int)) = 10 * (N : Int) := IntWalk.i64_in _ (by omega)
        have hu4 : IntKind.i64.wrap (10 * (N : Int) + (d : Int)) = 10 * (N : Int) + (d : Int) := IntWalk.i64_in _ (by omega)
        rw [← hN] at hT
        have HT := hT
        have z0 := HT.out.cz 0
        have z1 := HT.out.cz 1
        have z2 := HT.out.cz 2
        have z3 := HT.out.cz 3
        have z4 := HT.out.cz 4
        have z5 := HT.out.cz 5
        have z6 := HT.out.cz 6
        have z7 := HT.out.cz 7
        have zf := HT.out.z.frozen
        have zl := HT.out.z.lt
        have x0 := HT.out.cx 0
        have x1 := HT.out.cx 1
        have x2 := HT.out.cx 2
        have x3 := HT.out.cx 3
        have x4 := HT.out.cx 4
        have x5 := HT.out.cx 5
        have x6 := HT.out.cx 6
        have x7 := HT.out.cx 7
        have xf := HT.out.x.frozen
        have xl := HT.out.x.lt
        simp only [List.getElem?_toArray, List.getElem?_cons_zero, List.getElem?_cons_succ] at z0 z1 z2 z3 z4 z5 z6 z7 x0 x1 x2 x3 x4 x5 x6 x7
        have e1 := HT.out.zx
        have e2 : ¬ w.heap.size + 1 = w.heap.size := by omega

        have hNv : Hid (min (10 * N + d) 10000000000 = min (v * 10 + (y - 48)) 10000000000) := Lib.hid (by omega)
        have hNi : min (10 * (N : Int) + (d : Int)) 10000000000 = ((min (v * 10 + (y - 48)) 10000000000 : Nat) : Int) := by omega
        have HW2 : Hid (WW (wr.setCell ⟨w.heap.size + 1, 7, none⟩ (.int .i64 (min (10 * (N : Int) + (d : Int)) 10000000000))).drew w w.heap.size (w.heap.size + 1) m 0 ⟨#[]⟩ 0#256 ((min (v * 10 + (y - 48)) 10000000000 : Nat) : Int)) := Lib.hid (by
          rw [← hNi]; exact (HT.out.setN _).drew)
        clear hd hy hyd hN hdd hv hNi
        go_wp2_with (go_at_call 36; refine (hD _).out.mono ?_; rintro e w' ⟨rfl, rfl⟩)
        go_region
        go_wp2
        go_roundw
        case rel => exact ⟨q + 1, v * 10 + (y - 48), by go_num, by omega, by omega, hv2, HW2⟩
        case measure => simp [intOf]; omega
      | false =>
        rw [hyd] at hD
        have hqm : m < q := by
          rcases Nat.lt_or_ge m q with h | h
          · exact h
          · exfalso
            have e : q = m := by omega
            have hby : b = y := by rw [← hi hm, hy]; congr 1; subst e; rfl
            rw [← hby, hdg] at hyd
            cases hyd
        have hnx : ∀ lt, (letB y || decide (y = 95)) = lt → nxtB ((s.data.toList.drop m).drop (q - m)) = lt := fun lt hl => by
          rw [List.drop_drop, show m + (q - m) = q by omega, hd]
          show namB s[q].toNat = lt
          rw [← hy, nam_split, hyd, hl, Bool.or_false]
        have hst : ∀ c t, (s.data.toList.drop m).drop (q - m) = c :: t → digB c.toNat = false := fun c t h => by
          rw [List.drop_drop, show m + (q - m) = q by omega, hd] at h
          cases h
          rw [← hy]; exact hyd
        have hNO := numO_of (s.data.toList.drop m) (q - m) v _ _ hdr.out (by omega) (by rw [drop_len]; omega) hv.out hst
        have HNx2 := Lib.hid hnx
        have HNO := Lib.hid hNO
        have HLy := Lib.hid (fun w' => HL.out y hy256 w')
        clear hnx hst hNO hd hy hyd
        obtain ⟨N, hN⟩ : ∃ N, N = min v 10000000000 := ⟨_, rfl⟩
        rw [← hN] at hT
        have HNv := Lib.hid hN
        have HT := hT
        have hw1 : IntKind.i64.wrap ((q : Int) - (m : Int)) = (q : Int) - (m : Int) := IntWalk.i64_in _ (by omega)
        have hw2 : IntKind.i64.wrap ((m : Int) + 1) = (m : Int) + 1 := IntWalk.i64_in _ (by omega)
        have hb48 : (s[m]'hm ≠ 48) ↔ b ≠ 48 := by
          have := hi hm
          constructor
          · intro h e; exact h (UInt8.toNat_inj.1 (by show s[m].toNat = 48; omega))
          · intro h e; rw [e] at this; exact h this.symm
        have z0 := HT.out.cz 0
        have z1 := HT.out.cz 1
        have z2 := HT.out.cz 2
        have z3 := HT.out.cz 3
        have z4 := HT.out.cz 4
        have z5 := HT.out.cz 5
        have z6 := HT.out.cz 6
        have z7 := HT.out.cz 7
        have zf := HT.out.z.frozen
        have zl := HT.out.z.lt
        have x0 := HT.out.cx 0
        have x1 := HT.out.cx 1
        have x2 := HT.out.cx 2
        have x3 := HT.out.cx 3
        have x4 := HT.out.cx 4
        have x5 := HT.out.cx 5
        have x6 := HT.out.cx 6
        have x7 := HT.out.cx 7
        have xf := HT.out.x.frozen
        have xl := HT.out.x.lt
        simp only [List.getElem?_toArray, List.getElem?_cons_zero, List.getElem?_cons_succ] at z0 z1 z2 z3 z4 z5 z6 z7 x0 x1 x2 x3 x4 x5 x6 x7
        have e1 := HT.out.zx
        have e2 : ¬ w.heap.size + 1 = w.heap.size := by omega

        clear hN
        go_wp2_with (first | (go_at_call 36; refine (hD _).out.mono ?_; rintro e w' ⟨rfl, rfl⟩) | (go_at_call 35; refine (HLy.out _).mono ?_; rintro e w' ⟨rfl, rfl⟩))

        obtain ⟨wb, hwb⟩ : ∃ wb, wb = wr.setCell ⟨w.heap.size + 1, 0, none⟩ (.int .i64 4) := ⟨_, rfl⟩
        have HT : Hid (WW wb w w.heap.size (w.heap.size + 1) m 4 ⟨#[]⟩ 0#256 ((N : Nat) : Int)) := Lib.hid (by rw [hwb]; exact HT.out.setK 4)
        rw [← hwb]
        clear hwb z0 z1 z2 z3 z4 z5 z6 z7 zf zl x0 x1 x2 x3 x4 x5 x6 x7 xf xl e1 e2
        have z0 := HT.out.cz 0
        have z1 := HT.out.cz 1
        have z2 := HT.out.cz 2
        have z3 := HT.out.cz 3
        have z4 := HT.out.cz 4
        have z5 := HT.out.cz 5
        have z6 := HT.out.cz 6
        have z7 := HT.out.cz 7
        have zf := HT.out.z.frozen
        have zl := HT.out.z.lt
        have x0 := HT.out.cx 0
        have x1 := HT.out.cx 1
        have x2 := HT.out.cx 2
        have x3 := HT.out.cx 3
        have x4 := HT.out.cx 4
        have x5 := HT.out.cx 5
        have x6 := HT.out.cx 6
        have x7 := HT.out.cx 7
        have xf := HT.out.x.frozen
        have xl := HT.out.x.lt
        simp only [List.getElem?_toArray, List.getElem?_cons_zero, List.getElem?_cons_succ] at z0 z1 z2 z3 z4 z5 z6 z7 x0 x1 x2 x3 x4 x5 x6 x7
        have e1 := HT.out.zx
        have e2 : ¬ w.heap.size + 1 = w.heap.size := by omega
        have q5 : ((q : Int) == (s.size : Int)) = false := by rw [beq_eq_false_iff_ne]; omega

        by_cases c48 : b = 48
        · have d5 : ((b : Int) != 48) = false := by rw [bne_eq_false_iff_eq]; omega
          by_cases c1 : q = m + 1
          · have d6 : ((q : Int) == (m : Int) + 1) = true := by rw [beq_iff_eq]; omega
            have C1 : Hid (s[m]'hm ≠ 48 ∨ q - m = 1) := Lib.hid (.inr (by omega))
            clear c1 c48
            by_cases c9 : q - m ≤ 9
            · have n9 : (q : Int) - (m : Int) ≤ 9 := by omega
              cases hlt2 : (letB y || decide (y = 95)) with
              | true =>
                have hLy : ∀ w', Hid _ := fun w' => Lib.hid (HLy.out w')
                rw [hlt2] at hLy
                have HN : Hid (nextW (s.data.toList.drop m) = (if false then some ((⟨4, ⟨#[]⟩, 0#256, ((N : Nat) : Int)⟩ : Wd), q - m) else none)) := Lib.hid (by
                  rw [HNx.out, HNO.out.1, if_neg (fun h => by have := HNx2.out _ hlt2; rw [this] at h; exact absurd h.2 (by decide))]; rfl)
                go_region_held3 (fun W => W.cell? ⟨w.heap.size + 1, 0, none⟩ = some (.int .i64 4) ∧ W.cell? ⟨w.heap.size + 1, 1, none⟩ = some (.int .i64 (m : Int)) ∧ W.cell? ⟨w.heap.size + 1, 2, none⟩ = some (.string ⟨#[]⟩) ∧ W.cell? ⟨w.heap.size + 1, 3, none⟩ = some (.int .u64 (wdI 0#256 0)) ∧ W.cell? ⟨w.heap.size + 1, 4, none⟩ = some (.int .u64 (wdI 0#256 1)) ∧ W.cell? ⟨w.heap.size + 1, 5, none⟩ = some (.int .u64 (wdI 0#256 2)) ∧ W.cell? ⟨w.heap.size + 1, 6, none⟩ = some (.int .u64 (wdI 0#256 3)) ∧ W.cell? ⟨w.heap.size + 1, 7, none⟩ = some (.int .i64 (N : Int))) (go_keep) (first | (go_at_call 35; (with_reducible refine (hLy _).out.mono ?_); rintro e w' ⟨rfl, rfl⟩))

                all_goals go_wp2
                all_goals (refine bodyPost_ret (v := .tuple #[wordV ⟨4, ⟨#[]⟩, 0#256, ((N : Nat) : Int)⟩ m, .int .i64 ((q : Nat) : Int), .bool false]) (by simp [results, Tryz.results24, go_sem, wordV, wordC, wz.1, wz.2.1, wz.2.2.1, wz.2.2.2, z0, z1, z2, z3, z4, z5, z6, z7]) rfl (HPost.out false ⟨4, ⟨#[]⟩, 0#256, ((N : Nat) : Int)⟩ (q) _ hq1 ?_ HN.out))
                all_goals repeat (first | with_reducible exact HT.out.b | with_reducible refine Below.drew ?_ | with_reducible refine bset ?_ (Nat.le_refl _) _ | with_reducible refine bset ?_ (Nat.le_succ _) _)

              | false =>
                have hLy : ∀ w', Hid _ := fun w' => Lib.hid (HLy.out w')
                rw [hlt2] at hLy
                have HN : Hid (nextW (s.data.toList.drop m) = (if true then some ((⟨4, ⟨#[]⟩, 0#256, ((N : Nat) : Int)⟩ : Wd), q - m) else none)) := Lib.hid (by
                  have hc := HNO.out
                  have hd9 := dec_lt _ _ _ hv.out
                  rw [List.length_take, drop_len] at hd9
                  have hp : 10 ^ (min (q - m) (s.size - m)) ≤ 10 ^ 9 := Nat.pow_le_pow_right (by omega) (by omega)
                  have hN2 : N = v := by have := HNv.out; omega
                  rw [HNx.out, hc.1, if_pos ⟨⟨C1.out, c9⟩, (HNx2.out _ hlt2)⟩, hc.2 (HNx2.out _ hlt2), hN2]; rfl)
                go_region_held3 (fun W => W.cell? ⟨w.heap.size + 1, 0, none⟩ = some (.int .i64 4) ∧ W.cell? ⟨w.heap.size + 1, 1, none⟩ = some (.int .i64 (m : Int)) ∧ W.cell? ⟨w.heap.size + 1, 2, none⟩ = some (.string ⟨#[]⟩) ∧ W.cell? ⟨w.heap.size + 1, 3, none⟩ = some (.int .u64 (wdI 0#256 0)) ∧ W.cell? ⟨w.heap.size + 1, 4, none⟩ = some (.int .u64 (wdI 0#256 1)) ∧ W.cell? ⟨w.heap.size + 1, 5, none⟩ = some (.int .u64 (wdI 0#256 2)) ∧ W.cell? ⟨w.heap.size + 1, 6, none⟩ = some (.int .u64 (wdI 0#256 3)) ∧ W.cell? ⟨w.heap.size + 1, 7, none⟩ = some (.int .i64 (N : Int))) (go_keep) (first | (go_at_call 35; (with_reducible refine (hLy _).out.mono ?_); rintro e w' ⟨rfl, rfl⟩))

                all_goals go_wp2
                all_goals (refine bodyPost_ret (v := .tuple #[wordV ⟨4, ⟨#[]⟩, 0#256, ((N : Nat) : Int)⟩ m, .int .i64 ((q : Nat) : Int), .bool true]) (by simp [results, Tryz.results24, go_sem, wordV, wordC, wz.1, wz.2.1, wz.2.2.1, wz.2.2.2, z0, z1, z2, z3, z4, z5, z6, z7]) rfl (HPost.out true ⟨4, ⟨#[]⟩, 0#256, ((N : Nat) : Int)⟩ (q) _ hq1 ?_ HN.out))
                all_goals repeat (first | with_reducible exact HT.out.b | with_reducible refine Below.drew ?_ | with_reducible refine bset ?_ (Nat.le_refl _) _ | with_reducible refine bset ?_ (Nat.le_succ _) _)

            · have n9 : ¬ (q : Int) - (m : Int) ≤ 9 := by omega
              have hLy := fun w' => Lib.hid (HLy.out w')
              have HN : Hid (nextW (s.data.toList.drop m) = (if false then some ((⟨4, ⟨#[]⟩, 0#256, ((N : Nat) : Int)⟩ : Wd), q - m) else none)) := Lib.hid (by
                rw [HNx.out, HNO.out.1, if_neg (fun h => absurd h.1.2 c9)]; rfl)
              go_region

              all_goals go_wp2
              all_goals (refine bodyPost_ret (v := .tuple #[wordV ⟨4, ⟨#[]⟩, 0#256, ((N : Nat) : Int)⟩ m, .int .i64 ((q : Nat) : Int), .bool false]) (by simp [results, Tryz.results24, go_sem, wordV, wordC, wz.1, wz.2.1, wz.2.2.1, wz.2.2.2, z0, z1, z2, z3, z4, z5, z6, z7]) rfl (HPost.out false ⟨4, ⟨#[]⟩, 0#256, ((N : Nat) : Int)⟩ (q) _ hq1 ?_ HN.out))
              all_goals repeat (first | with_reducible exact HT.out.b | with_reducible refine Below.drew ?_ | with_reducible refine bset ?_ (Nat.le_refl _) _ | with_reducible refine bset ?_ (Nat.le_succ _) _)

          · have d6 : ((q : Int) == (m : Int) + 1) = false := by rw [beq_eq_false_iff_ne]; omega
            have C1 : Hid (¬ (s[m]'hm ≠ 48 ∨ q - m = 1)) := Lib.hid (by rintro (h | h); exact hb48.1 h c48; omega)
            clear c1 c48
            have hLy := fun w' => Lib.hid (HLy.out w')
            have HN : Hid (nextW (s.data.toList.drop m) = (if false then some ((⟨4, ⟨#[]⟩, 0#256, ((N : Nat) : Int)⟩ : Wd), q - m) else none)) := Lib.hid (by
              rw [HNx.out, HNO.out.1, if_neg (fun h => C1.out h.1.1)]; rfl)
            go_region

            all_goals go_wp2
            all_goals (refine bodyPost_ret (v := .tuple #[wordV ⟨4, ⟨#[]⟩, 0#256, ((N : Nat) : Int)⟩ m, .int .i64 ((q : Nat) : Int), .bool false]) (by simp [results, Tryz.results24, go_sem, wordV, wordC, wz.1, wz.2.1, wz.2.2.1, wz.2.2.2, z0, z1, z2, z3, z4, z5, z6, z7]) rfl (HPost.out false ⟨4, ⟨#[]⟩, 0#256, ((N : Nat) : Int)⟩ (q) _ hq1 ?_ HN.out))
            all_goals repeat (first | with_reducible exact HT.out.b | with_reducible refine Below.drew ?_ | with_reducible refine bset ?_ (Nat.le_refl _) _ | with_reducible refine bset ?_ (Nat.le_succ _) _)

        · have d5 : ((b : Int) != 48) = true := by rw [bne_iff_ne]; omega
          have d5b : ((b : Int) == 48) = false := by rw [beq_eq_false_iff_ne]; omega
          have C1 : Hid (s[m]'hm ≠ 48 ∨ q - m = 1) := Lib.hid (.inl (hb48.2 c48))
          clear c48
          by_cases c9 : q - m ≤ 9
          · have n9 : (q : Int) - (m : Int) ≤ 9 := by omega
            cases hlt2 : (letB y || decide (y = 95)) with
            | true =>
              have hLy : ∀ w', Hid _ := fun w' => Lib.hid (HLy.out w')
              rw [hlt2] at hLy
              have HN : Hid (nextW (s.data.toList.drop m) = (if false then some ((⟨4, ⟨#[]⟩, 0#256, ((N : Nat) : Int)⟩ : Wd), q - m) else none)) := Lib.hid (by
                rw [HNx.out, HNO.out.1, if_neg (fun h => by have := HNx2.out _ hlt2; rw [this] at h; exact absurd h.2 (by decide))]; rfl)
              first | (go_region_held (fun W => W.cell? ⟨w.heap.size + 1, 0, none⟩ = some (.int .i64 4) ∧ W.cell? ⟨w.heap.size + 1, 1, none⟩ = some (.int .i64 (m : Int)) ∧ W.cell? ⟨w.heap.size + 1, 2, none⟩ = some (.string ⟨#[]⟩) ∧ W.cell? ⟨w.heap.size + 1, 3, none⟩ = some (.int .u64 (wdI 0#256 0)) ∧ W.cell? ⟨w.heap.size + 1, 4, none⟩ = some (.int .u64 (wdI 0#256 1)) ∧ W.cell? ⟨w.heap.size + 1, 5, none⟩ = some (.int .u64 (wdI 0#256 2)) ∧ W.cell? ⟨w.heap.size + 1, 6, none⟩ = some (.int .u64 (wdI 0#256 3)) ∧ W.cell? ⟨w.heap.size + 1, 7, none⟩ = some (.int .i64 (N : Int))) (go_keep) (first | (go_at_call 35; (with_reducible refine (hLy _).out.mono ?_); rintro e w' ⟨rfl, rfl⟩))) | fail

              all_goals go_wp2
              all_goals (refine bodyPost_ret (v := .tuple #[wordV ⟨4, ⟨#[]⟩, 0#256, ((N : Nat) : Int)⟩ m, .int .i64 ((q : Nat) : Int), .bool false]) (by simp [results, Tryz.results24, go_sem, wordV, wordC, wz.1, wz.2.1, wz.2.2.1, wz.2.2.2, z0, z1, z2, z3, z4, z5, z6, z7]) rfl (HPost.out false ⟨4, ⟨#[]⟩, 0#256, ((N : Nat) : Int)⟩ (q) _ hq1 ?_ HN.out))
              all_goals repeat (first | with_reducible exact HT.out.b | with_reducible refine Below.drew ?_ | with_reducible refine bset ?_ (Nat.le_refl _) _ | with_reducible refine bset ?_ (Nat.le_succ _) _)

            | false =>
              have hLy : ∀ w', Hid _ := fun w' => Lib.hid (HLy.out w')
              rw [hlt2] at hLy
              have HN : Hid (nextW (s.data.toList.drop m) = (if true then some ((⟨4, ⟨#[]⟩, 0#256, ((N : Nat) : Int)⟩ : Wd), q - m) else none)) := Lib.hid (by
                have hc := HNO.out
                have hd9 := dec_lt _ _ _ hv.out
                rw [List.length_take, drop_len] at hd9
                have hp : 10 ^ (min (q - m) (s.size - m)) ≤ 10 ^ 9 := Nat.pow_le_pow_right (by omega) (by omega)
                have hN2 : N = v := by have := HNv.out; omega
                rw [HNx.out, hc.1, if_pos ⟨⟨C1.out, c9⟩, (HNx2.out _ hlt2)⟩, hc.2 (HNx2.out _ hlt2), hN2]; rfl)
              first | (go_region_held (fun W => W.cell? ⟨w.heap.size + 1, 0, none⟩ = some (.int .i64 4) ∧ W.cell? ⟨w.heap.size + 1, 1, none⟩ = some (.int .i64 (m : Int)) ∧ W.cell? ⟨w.heap.size + 1, 2, none⟩ = some (.string ⟨#[]⟩) ∧ W.cell? ⟨w.heap.size + 1, 3, none⟩ = some (.int .u64 (wdI 0#256 0)) ∧ W.cell? ⟨w.heap.size + 1, 4, none⟩ = some (.int .u64 (wdI 0#256 1)) ∧ W.cell? ⟨w.heap.size + 1, 5, none⟩ = some (.int .u64 (wdI 0#256 2)) ∧ W.cell? ⟨w.heap.size + 1, 6, none⟩ = some (.int .u64 (wdI 0#256 3)) ∧ W.cell? ⟨w.heap.size + 1, 7, none⟩ = some (.int .i64 (N : Int))) (go_keep) (first | (go_at_call 35; (with_reducible refine (hLy _).out.mono ?_); rintro e w' ⟨rfl, rfl⟩))) | fail

              all_goals go_wp2
              all_goals (refine bodyPost_ret (v := .tuple #[wordV ⟨4, ⟨#[]⟩, 0#256, ((N : Nat) : Int)⟩ m, .int .i64 ((q : Nat) : Int), .bool true]) (by simp [results, Tryz.results24, go_sem, wordV, wordC, wz.1, wz.2.1, wz.2.2.1, wz.2.2.2, z0, z1, z2, z3, z4, z5, z6, z7]) rfl (HPost.out true ⟨4, ⟨#[]⟩, 0#256, ((N : Nat) : Int)⟩ (q) _ hq1 ?_ HN.out))
              all_goals repeat (first | with_reducible exact HT.out.b | with_reducible refine Below.drew ?_ | with_reducible refine bset ?_ (Nat.le_refl _) _ | with_reducible refine bset ?_ (Nat.le_succ _) _)

          · have n9 : ¬ (q : Int) - (m : Int) ≤ 9 := by omega
            have hLy := fun w' => Lib.hid (HLy.out w')
            have HN : Hid (nextW (s.data.toList.drop m) = (if false then some ((⟨4, ⟨#[]⟩, 0#256, ((N : Nat) : Int)⟩ : Wd), q - m) else none)) := Lib.hid (by
              rw [HNx.out, HNO.out.1, if_neg (fun h => absurd h.1.2 c9)]; rfl)
            go_region

            all_goals go_wp2
            all_goals (refine bodyPost_ret (v := .tuple #[wordV ⟨4, ⟨#[]⟩, 0#256, ((N : Nat) : Int)⟩ m, .int .i64 ((q : Nat) : Int), .bool false]) (by simp [results, Tryz.results24, go_sem, wordV, wordC, wz.1, wz.2.1, wz.2.2.1, wz.2.2.2, z0, z1, z2, z3, z4, z5, z6, z7]) rfl (HPost.out false ⟨4, ⟨#[]⟩, 0#256, ((N : Nat) : Int)⟩ (q) _ hq1 ?_ HN.out))
            all_goals repeat (first | with_reducible exact HT.out.b | with_reducible refine Below.drew ?_ | with_reducible refine bset ?_ (Nat.le_refl _) _ | with_reducible refine bset ?_ (Nat.le_succ _) _)

    · have n4 : ¬ (q : Int) < (s.size : Int) := by omega
      have hqm : m < q := by omega
      have hst : ∀ c t, (s.data.toList.drop m).drop (q - m) = c :: t → digB c.toNat = false := fun c t h => by
        rw [List.drop_drop, drop_end s _ (by omega)] at h; cases h
      have hnx : nxtB ((s.data.toList.drop m).drop (q - m)) = false := by
        rw [List.drop_drop, drop_end s _ (by omega)]; rfl
      have hNO := numO_of (s.data.toList.drop m) (q - m) v _ _ hdr.out (by omega) (by rw [drop_len]; omega) hv.out hst
      have HNx2 := Lib.hid hnx
      have HNO := Lib.hid hNO
      have Hq2 : Hid (q = s.size) := Lib.hid (by omega)
      have q5 : ((q : Int) == (s.size : Int)) = true := by rw [beq_iff_eq]; omega
      clear hst hnx hNO
      obtain ⟨N, hN⟩ : ∃ N, N = min v 10000000000 := ⟨_, rfl⟩
      rw [← hN] at hT
      have HNv := Lib.hid hN
      have HT := hT
      have hw1 : IntKind.i64.wrap ((q : Int) - (m : Int)) = (q : Int) - (m : Int) := IntWalk.i64_in _ (by omega)
      have hw2 : IntKind.i64.wrap ((m : Int) + 1) = (m : Int) + 1 := IntWalk.i64_in _ (by omega)
      have hb48 : (s[m]'hm ≠ 48) ↔ b ≠ 48 := by
        have := hi hm
        constructor
        · intro h e; exact h (UInt8.toNat_inj.1 (by show s[m].toNat = 48; omega))
        · intro h e; rw [e] at this; exact h this.symm
      have z0 := HT.out.cz 0
      have z1 := HT.out.cz 1
      have z2 := HT.out.cz 2
      have z3 := HT.out.cz 3
      have z4 := HT.out.cz 4
      have z5 := HT.out.cz 5
      have z6 := HT.out.cz 6
      have z7 := HT.out.cz 7
      have zf := HT.out.z.frozen
      have zl := HT.out.z.lt
      have x0 := HT.out.cx 0
      have x1 := HT.out.cx 1
      have x2 := HT.out.cx 2
      have x3 := HT.out.cx 3
      have x4 := HT.out.cx 4
      have x5 := HT.out.cx 5
      have x6 := HT.out.cx 6
      have x7 := HT.out.cx 7
      have xf := HT.out.x.frozen
      have xl := HT.out.x.lt
      simp only [List.getElem?_toArray, List.getElem?_cons_zero, List.getElem?_cons_succ] at z0 z1 z2 z3 z4 z5 z6 z7 x0 x1 x2 x3 x4 x5 x6 x7
      have e1 := HT.out.zx
      have e2 : ¬ w.heap.size + 1 = w.heap.size := by omega

      clear hN
      go_wp2_with fail

      obtain ⟨wb, hwb⟩ : ∃ wb, wb = wr.setCell ⟨w.heap.size + 1, 0, none⟩ (.int .i64 4) := ⟨_, rfl⟩
      have HT : Hid (WW wb w w.heap.size (w.heap.size + 1) m 4 ⟨#[]⟩ 0#256 ((N : Nat) : Int)) := Lib.hid (by rw [hwb]; exact HT.out.setK 4)
      rw [← hwb]
      clear hwb z0 z1 z2 z3 z4 z5 z6 z7 zf zl x0 x1 x2 x3 x4 x5 x6 x7 xf xl e1 e2
      have z0 := HT.out.cz 0
      have z1 := HT.out.cz 1
      have z2 := HT.out.cz 2
      have z3 := HT.out.cz 3
      have z4 := HT.out.cz 4
      have z5 := HT.out.cz 5
      have z6 := HT.out.cz 6
      have z7 := HT.out.cz 7
      have zf := HT.out.z.frozen
      have zl := HT.out.z.lt
      have x0 := HT.out.cx 0
      have x1 := HT.out.cx 1
      have x2 := HT.out.cx 2
      have x3 := HT.out.cx 3
      have x4 := HT.out.cx 4
      have x5 := HT.out.cx 5
      have x6 := HT.out.cx 6
      have x7 := HT.out.cx 7
      have xf := HT.out.x.frozen
      have xl := HT.out.x.lt
      simp only [List.getElem?_toArray, List.getElem?_cons_zero, List.getElem?_cons_succ] at z0 z1 z2 z3 z4 z5 z6 z7 x0 x1 x2 x3 x4 x5 x6 x7
      have e1 := HT.out.zx
      have e2 : ¬ w.heap.size + 1 = w.heap.size := by omega

      by_cases c48 : b = 48
      · have d5 : ((b : Int) != 48) = false := by rw [bne_eq_false_iff_eq]; omega
        by_cases c1 : q = m + 1
        · have d6 : ((q : Int) == (m : Int) + 1) = true := by rw [beq_iff_eq]; omega
          have C1 : Hid (s[m]'hm ≠ 48 ∨ q - m = 1) := Lib.hid (.inr (by omega))
          clear c1 c48
          by_cases c9 : q - m ≤ 9
          · have n9 : (q : Int) - (m : Int) ≤ 9 := by omega
            have HN : Hid (nextW (s.data.toList.drop m) = (if true then some ((⟨4, ⟨#[]⟩, 0#256, ((N : Nat) : Int)⟩ : Wd), q - m) else none)) := Lib.hid (by
              have hc := HNO.out
              have hd9 := dec_lt _ _ _ hv.out
              rw [List.length_take, drop_len] at hd9
              have hp : 10 ^ (min (q - m) (s.size - m)) ≤ 10 ^ 9 := Nat.pow_le_pow_right (by omega) (by omega)
              have hN2 : N = v := by have := HNv.out; omega
              rw [HNx.out, hc.1, if_pos ⟨⟨C1.out, c9⟩, HNx2.out⟩, hc.2 HNx2.out, hN2]; rfl)
            go_region

            all_goals go_wp2
            all_goals (refine bodyPost_ret (v := .tuple #[wordV ⟨4, ⟨#[]⟩, 0#256, ((N : Nat) : Int)⟩ m, .int .i64 ((q : Nat) : Int), .bool true]) (by simp [results, Tryz.results24, go_sem, wordV, wordC, wz.1, wz.2.1, wz.2.2.1, wz.2.2.2, z0, z1, z2, z3, z4, z5, z6, z7]) rfl (HPost.out true ⟨4, ⟨#[]⟩, 0#256, ((N : Nat) : Int)⟩ (q) _ hq1 ?_ HN.out))
            all_goals repeat (first | with_reducible exact HT.out.b | with_reducible refine Below.drew ?_ | with_reducible refine bset ?_ (Nat.le_refl _) _ | with_reducible refine bset ?_ (Nat.le_succ _) _)

          · have n9 : ¬ (q : Int) - (m : Int) ≤ 9 := by omega
            have HN : Hid (nextW (s.data.toList.drop m) = (if false then some ((⟨4, ⟨#[]⟩, 0#256, ((N : Nat) : Int)⟩ : Wd), q - m) else none)) := Lib.hid (by
              rw [HNx.out, HNO.out.1, if_neg (fun h => absurd h.1.2 c9)]; rfl)
            go_region

            all_goals go_wp2
            all_goals (refine bodyPost_ret (v := .tuple #[wordV ⟨4, ⟨#[]⟩, 0#256, ((N : Nat) : Int)⟩ m, .int .i64 ((q : Nat) : Int), .bool false]) (by simp [results, Tryz.results24, go_sem, wordV, wordC, wz.1, wz.2.1, wz.2.2.1, wz.2.2.2, z0, z1, z2, z3, z4, z5, z6, z7]) rfl (HPost.out false ⟨4, ⟨#[]⟩, 0#256, ((N : Nat) : Int)⟩ (q) _ hq1 ?_ HN.out))
            all_goals repeat (first | with_reducible exact HT.out.b | with_reducible refine Below.drew ?_ | with_reducible refine bset ?_ (Nat.le_refl _) _ | with_reducible refine bset ?_ (Nat.le_succ _) _)

        · have d6 : ((q : Int) == (m : Int) + 1) = false := by rw [beq_eq_false_iff_ne]; omega
          have C1 : Hid (¬ (s[m]'hm ≠ 48 ∨ q - m = 1)) := Lib.hid (by rintro (h | h); exact hb48.1 h c48; omega)
          clear c1 c48
          have HN : Hid (nextW (s.data.toList.drop m) = (if false then some ((⟨4, ⟨#[]⟩, 0#256, ((N : Nat) : Int)⟩ : Wd), q - m) else none)) := Lib.hid (by
            rw [HNx.out, HNO.out.1, if_neg (fun h => C1.out h.1.1)]; rfl)
          go_region

          all_goals go_wp2
          all_goals (refine bodyPost_ret (v := .tuple #[wordV ⟨4, ⟨#[]⟩, 0#256, ((N : Nat) : Int)⟩ m, .int .i64 ((q : Nat) : Int), .bool false]) (by simp [results, Tryz.results24, go_sem, wordV, wordC, wz.1, wz.2.1, wz.2.2.1, wz.2.2.2, z0, z1, z2, z3, z4, z5, z6, z7]) rfl (HPost.out false ⟨4, ⟨#[]⟩, 0#256, ((N : Nat) : Int)⟩ (q) _ hq1 ?_ HN.out))
          all_goals repeat (first | with_reducible exact HT.out.b | with_reducible refine Below.drew ?_ | with_reducible refine bset ?_ (Nat.le_refl _) _ | with_reducible refine bset ?_ (Nat.le_succ _) _)

      · have d5 : ((b : Int) != 48) = true := by rw [bne_iff_ne]; omega
        have d5b : ((b : Int) == 48) = false := by rw [beq_eq_false_iff_ne]; omega
        have C1 : Hid (s[m]'hm ≠ 48 ∨ q - m = 1) := Lib.hid (.inl (hb48.2 c48))
        clear c48
        by_cases c9 : q - m ≤ 9
        · have n9 : (q : Int) - (m : Int) ≤ 9 := by omega
          have HN : Hid (nextW (s.data.toList.drop m) = (if true then some ((⟨4, ⟨#[]⟩, 0#256, ((N : Nat) : Int)⟩ : Wd), q - m) else none)) := Lib.hid (by
            have hc := HNO.out
            have hd9 := dec_lt _ _ _ hv.out
            rw [List.length_take, drop_len] at hd9
            have hp : 10 ^ (min (q - m) (s.size - m)) ≤ 10 ^ 9 := Nat.pow_le_pow_right (by omega) (by omega)
            have hN2 : N = v := by have := HNv.out; omega
            rw [HNx.out, hc.1, if_pos ⟨⟨C1.out, c9⟩, HNx2.out⟩, hc.2 HNx2.out, hN2]; rfl)
          go_region

          all_goals go_wp2
          all_goals (refine bodyPost_ret (v := .tuple #[wordV ⟨4, ⟨#[]⟩, 0#256, ((N : Nat) : Int)⟩ m, .int .i64 ((q : Nat) : Int), .bool true]) (by simp [results, Tryz.results24, go_sem, wordV, wordC, wz.1, wz.2.1, wz.2.2.1, wz.2.2.2, z0, z1, z2, z3, z4, z5, z6, z7]) rfl (HPost.out true ⟨4, ⟨#[]⟩, 0#256, ((N : Nat) : Int)⟩ (q) _ hq1 ?_ HN.out))
          all_goals repeat (first | with_reducible exact HT.out.b | with_reducible refine Below.drew ?_ | with_reducible refine bset ?_ (Nat.le_refl _) _ | with_reducible refine bset ?_ (Nat.le_succ _) _)

        · have n9 : ¬ (q : Int) - (m : Int) ≤ 9 := by omega
          have HN : Hid (nextW (s.data.toList.drop m) = (if false then some ((⟨4, ⟨#[]⟩, 0#256, ((N : Nat) : Int)⟩ : Wd), q - m) else none)) := Lib.hid (by
            rw [HNx.out, HNO.out.1, if_neg (fun h => absurd h.1.2 c9)]; rfl)
          go_region

          all_goals go_wp2
          all_goals (refine bodyPost_ret (v := .tuple #[wordV ⟨4, ⟨#[]⟩, 0#256, ((N : Nat) : Int)⟩ m, .int .i64 ((q : Nat) : Int), .bool false]) (by simp [results, Tryz.results24, go_sem, wordV, wordC, wz.1, wz.2.1, wz.2.2.1, wz.2.2.2, z0, z1, z2, z3, z4, z5, z6, z7]) rfl (HPost.out false ⟨4, ⟨#[]⟩, 0#256, ((N : Nat) : Int)⟩ (q) _ hq1 ?_ HN.out))
          all_goals repeat (first | with_reducible exact HT.out.b | with_reducible refine Below.drew ?_ | with_reducible refine bset ?_ (Nat.le_refl _) _ | with_reducible refine bset ?_ (Nat.le_succ _) _)
end Go.Proofs.YtdodkbpagbblmaaGreatDoor
end
section
namespace Go.Proofs.YtdodkbpagbblmaaGreatDoor
open Go Go.RowKit
/-! A sign, or none. -/
set_option maxRecDepth 100000 in
set_option maxHeartbeats 16000000 in
theorem word_sign (s : ByteArray) (m : Nat) (hs : s.size ≤ 5000) (hm : m < s.size) (w : World) (b : Nat) (hi : ∀ h, (s[m]'h).toNat = b) (hLt : (letB b || decide (b = 95)) = false) (c34 : ¬ b = 34) (c91 : ¬ b = 91) (hdg : digB b = false) (hsg : sgnB b = true) :
    Calls Tryz.prog 24 #[.string s, .int .i64 m] w (WordP s m w) := by
  have hb256 : b < 256 := by rw [← hi hm]; exact (s[m]'hm).toNat_lt
  have hdr := Lib.hid (drop_at s m hm)
  have HNW := Lib.hid (nextW_of _ _ _ hdr.out b (hi hm))
  have n1 : (m : Int) < (s.size : Int) := by omega
  have n3 : (0 : Int) ≤ (m : Int) := by omega
  obtain ⟨wa, hwa⟩ : ∃ wa, wa = (w.alloc (.cells #[.int .i64 0, .int .i64 0, .string ⟨#[]⟩, .int .u64 0, .int .u64 0, .int .u64 0, .int .u64 0, .int .i64 0] 35)).alloc (.cells #[.int .i64 0, .int .i64 (m : Int), .string ⟨#[]⟩, .int .u64 0, .int .u64 0, .int .u64 0, .int .u64 0, .int .i64 0] 35) := ⟨_, rfl⟩
  have hww : WW wa w w.heap.size (w.heap.size + 1) m 0 ⟨#[]⟩ 0#256 0 := by
    have h1 := Blk.new (w.alloc (.cells #[.int .i64 0, .int .i64 0, .string ⟨#[]⟩, .int .u64 0, .int .u64 0, .int .u64 0, .int .u64 0, .int .i64 0] 35)) 35 #[.int .i64 0, .int .i64 (m : Int), .string ⟨#[]⟩, .int .u64 0, .int .u64 0, .int .u64 0, .int .u64 0, .int .i64 0]
    rw [World.size_alloc, ← hwa] at h1
    refine ⟨?_, ?_, ?_, by omega, Nat.le_refl _, by omega⟩
    · rw [hwa]; exact (Blk.new w 35 _).alloc _
    · rw [wz.1, wz.2.1, wz.2.2.1, wz.2.2.2]; exact h1
    · rw [hwa]; exact ((Below.refl _ w).alloc (Nat.le_refl _) _).alloc (by simp) _
  have HPost : Hid (∀ (ok : Bool) (x : Wd) (n : Nat) (w' : World), m ≤ n → Below w.heap.size w w' → nextW (s.data.toList.drop m) = (if ok then some (x, n - m) else none) → WordP s m w (.returned (.tuple #[wordV x m, .int .i64 (n : Int), .bool ok])) w') := Lib.hid (fun ok x n w' hn hB h => by
    unfold WordP
    refine ⟨hB, ?_⟩
    cases ok with
    | true =>
      rw [h]
      show Ending.returned (.tuple #[wordV x m, .int .i64 (n : Int), .bool true]) = .returned (.tuple #[wordV x m, .int .i64 ((m + (n - m) : Nat) : Int), .bool true])
      rw [show m + (n - m) = n by omega]
    | false =>
      rw [h]
      exact ⟨x, n, rfl⟩)
  have HW := Lib.hid hww
  have HWa := Lib.hid hwa
  have HL := Lib.hid (fun y (hy : y < 256) w' => letter_any y hy w')
  have HD := Lib.hid (fun y (hy : y < 256) w' => rdigit_any y hy w')
  clear hwa hww
  go_enter Tryz.func24, Tryz.ntmps24
  go_wp2_with fail
  rw [← HWa.out]
  refine (HL.out b hb256 _).mono ?_
  rw [hLt]
  rintro e w' ⟨rfl, rfl⟩
  have d1 : ((b : Int) == 34) = false := by rw [beq_eq_false_iff_ne]; omega
  have d2 : ((b : Int) == 91) = false := by rw [beq_eq_false_iff_ne]; omega
  have hDb := fun w' => Lib.hid (HD.out b hb256 w')
  rw [hdg] at hDb
  have hSb := fun w' => Lib.hid (rin_any b hb256 w')
  rw [hsg] at hSb
  have HN : Hid (nextW (s.data.toList.drop m) = (if true then some ((⟨5, s.extract m (m + 1), 0#256, 0⟩ : Wd), m + 1 - m) else none)) := Lib.hid (by
    rw [HNW.out, if_neg (by rw [hLt]; simp), if_neg (by rw [hdg]; simp), if_neg c34, if_neg c91, if_pos hsg, ← cut_list, show m + 1 - m = 1 by omega]; rfl)
  have hq1 : m ≤ m + 1 := by omega
  have q1 : (m : Int) + 1 ≤ (s.size : Int) := by omega
  have HT := HW
  have z0 := HT.out.cz 0
  have z1 := HT.out.cz 1
  have z2 := HT.out.cz 2
  have z3 := HT.out.cz 3
  have z4 := HT.out.cz 4
  have z5 := HT.out.cz 5
  have z6 := HT.out.cz 6
  have z7 := HT.out.cz 7
  have zf := HT.out.z.frozen
  have zl := HT.out.z.lt
  have x0 := HT.out.cx 0
  have x1 := HT.out.cx 1
  have x2 := HT.out.cx 2
  have x3 := HT.out.cx 3
  have x4 := HT.out.cx 4
  have x5 := HT.out.cx 5
  have x6 := HT.out.cx 6
  have x7 := HT.out.cx 7
  have xf := HT.out.x.frozen
  have xl := HT.out.x.lt
  simp only [List.getElem?_toArray, List.getElem?_cons_zero, List.getElem?_cons_succ] at z0 z1 z2 z3 z4 z5 z6 z7 x0 x1 x2 x3 x4 x5 x6 x7
  have e1 := HT.out.zx
  have e2 : ¬ w.heap.size + 1 = w.heap.size := by omega

  go_wp2_with (first | (go_at_call 36; refine (hDb _).out.mono ?_; rintro e w' ⟨rfl, rfl⟩) | (go_at_call 48; refine (hSb _).out.mono ?_; rintro e w' ⟨rfl, rfl⟩))
  go_region

  obtain ⟨wb, hwb⟩ : ∃ wb, wb = ((wa.setCell ⟨w.heap.size + 1, 0, none⟩ (.int .i64 5)).setCell ⟨w.heap.size + 1, 2, none⟩ (.string (s.extract m (m + 1)))).drew := ⟨_, rfl⟩
  have HT : Hid (WW wb w w.heap.size (w.heap.size + 1) m 5 (s.extract m (m + 1)) 0#256 0) := Lib.hid (by rw [hwb]; exact ((HW.out.setK 5).setT (s.extract m (m + 1))).drew)
  rw [← hwb]
  clear hwb z0 z1 z2 z3 z4 z5 z6 z7 zf zl x0 x1 x2 x3 x4 x5 x6 x7 xf xl e1 e2
  have z0 := HT.out.cz 0
  have z1 := HT.out.cz 1
  have z2 := HT.out.cz 2
  have z3 := HT.out.cz 3
  have z4 := HT.out.cz 4
  have z5 := HT.out.cz 5
  have z6 := HT.out.cz 6
  have z7 := HT.out.cz 7
  have zf := HT.out.z.frozen
  have zl := HT.out.z.lt
  have x0 := HT.out.cx 0
  have x1 := HT.out.cx 1
  have x2 := HT.out.cx 2
  have x3 := HT.out.cx 3
  have x4 := HT.out.cx 4
  have x5 := HT.out.cx 5
  have x6 := HT.out.cx 6
  have x7 := HT.out.cx 7
  have xf := HT.out.x.frozen
  have xl := HT.out.x.lt
  simp only [List.getElem?_toArray, List.getElem?_cons_zero, List.getElem?_cons_succ] at z0 z1 z2 z3 z4 z5 z6 z7 x0 x1 x2 x3 x4 x5 x6 x7
  have e1 := HT.out.zx
  have e2 : ¬ w.heap.size + 1 = w.heap.size := by omega

  go_wp2

  all_goals go_wp2
  all_goals (refine bodyPost_ret (v := .tuple #[wordV ⟨5, s.extract m (m + 1), 0#256, 0⟩ m, .int .i64 ((m + 1 : Nat) : Int), .bool true]) (by simp [results, Tryz.results24, go_sem, wordV, wordC, wz.1, wz.2.1, wz.2.2.1, wz.2.2.2, z0, z1, z2, z3, z4, z5, z6, z7]) rfl (HPost.out true ⟨5, s.extract m (m + 1), 0#256, 0⟩ (m + 1) _ hq1 ?_ HN.out))
  all_goals repeat (first | with_reducible exact HT.out.b | with_reducible refine Below.drew ?_ | with_reducible refine bset ?_ (Nat.le_refl _) _ | with_reducible refine bset ?_ (Nat.le_succ _) _)

set_option maxRecDepth 100000 in
set_option maxHeartbeats 16000000 in
theorem word_none (s : ByteArray) (m : Nat) (hs : s.size ≤ 5000) (hm : m < s.size) (w : World) (b : Nat) (hi : ∀ h, (s[m]'h).toNat = b) (hLt : (letB b || decide (b = 95)) = false) (c34 : ¬ b = 34) (c91 : ¬ b = 91) (hdg : digB b = false) (hsg : sgnB b = false) :
    Calls Tryz.prog 24 #[.string s, .int .i64 m] w (WordP s m w) := by
  have hb256 : b < 256 := by rw [← hi hm]; exact (s[m]'hm).toNat_lt
  have hdr := Lib.hid (drop_at s m hm)
  have HNW := Lib.hid (nextW_of _ _ _ hdr.out b (hi hm))
  have n1 : (m : Int) < (s.size : Int) := by omega
  have n3 : (0 : Int) ≤ (m : Int) := by omega
  obtain ⟨wa, hwa⟩ : ∃ wa, wa = (w.alloc (.cells #[.int .i64 0, .int .i64 0, .string ⟨#[]⟩, .int .u64 0, .int .u64 0, .int .u64 0, .int .u64 0, .int .i64 0] 35)).alloc (.cells #[.int .i64 0, .int .i64 (m : Int), .string ⟨#[]⟩, .int .u64 0, .int .u64 0, .int .u64 0, .int .u64 0, .int .i64 0] 35) := ⟨_, rfl⟩
  have hww : WW wa w w.heap.size (w.heap.size + 1) m 0 ⟨#[]⟩ 0#256 0 := by
    have h1 := Blk.new (w.alloc (.cells #[.int .i64 0, .int .i64 0, .string ⟨#[]⟩, .int .u64 0, .int .u64 0, .int .u64 0, .int .u64 0, .int .i64 0] 35)) 35 #[.int .i64 0, .int .i64 (m : Int), .string ⟨#[]⟩, .int .u64 0, .int .u64 0, .int .u64 0, .int .u64 0, .int .i64 0]
    rw [World.size_alloc, ← hwa] at h1
    refine ⟨?_, ?_, ?_, by omega, Nat.le_refl _, by omega⟩
    · rw [hwa]; exact (Blk.new w 35 _).alloc _
    · rw [wz.1, wz.2.1, wz.2.2.1, wz.2.2.2]; exact h1
    · rw [hwa]; exact ((Below.refl _ w).alloc (Nat.le_refl _) _).alloc (by simp) _
  have HPost : Hid (∀ (ok : Bool) (x : Wd) (n : Nat) (w' : World), m ≤ n → Below w.heap.size w w' → nextW (s.data.toList.drop m) = (if ok then some (x, n - m) else none) → WordP s m w (.returned (.tuple #[wordV x m, .int .i64 (n : Int), .bool ok])) w') := Lib.hid (fun ok x n w' hn hB h => by
    unfold WordP
    refine ⟨hB, ?_⟩
    cases ok with
    | true =>
      rw [h]
      show Ending.returned (.tuple #[wordV x m, .int .i64 (n : Int), .bool true]) = .returned (.tuple #[wordV x m, .int .i64 ((m + (n - m) : Nat) : Int), .bool true])
      rw [show m + (n - m) = n by omega]
    | false =>
      rw [h]
      exact ⟨x, n, rfl⟩)
  have HW := Lib.hid hww
  have HWa := Lib.hid hwa
  have HL := Lib.hid (fun y (hy : y < 256) w' => letter_any y hy w')
  have HD := Lib.hid (fun y (hy : y < 256) w' => rdigit_any y hy w')
  clear hwa hww
  go_enter Tryz.func24, Tryz.ntmps24
  go_wp2_with fail
  rw [← HWa.out]
  refine (HL.out b hb256 _).mono ?_
  rw [hLt]
  rintro e w' ⟨rfl, rfl⟩
  have d1 : ((b : Int) == 34) = false := by rw [beq_eq_false_iff_ne]; omega
  have d2 : ((b : Int) == 91) = false := by rw [beq_eq_false_iff_ne]; omega
  have hDb := fun w' => Lib.hid (HD.out b hb256 w')
  rw [hdg] at hDb
  have hSb := fun w' => Lib.hid (rin_any b hb256 w')
  rw [hsg] at hSb
  have HN : Hid (nextW (s.data.toList.drop m) = (if false then some ((⟨0, ⟨#[]⟩, 0#256, 0⟩ : Wd), m - m) else none)) := Lib.hid (by
    rw [HNW.out, if_neg (by rw [hLt]; simp), if_neg (by rw [hdg]; simp), if_neg c34, if_neg c91, if_neg (by rw [hsg]; simp)]; rfl)
  have hq1 : m ≤ m := Nat.le_refl _
  have HT := HW
  have z0 := HT.out.cz 0
  have z1 := HT.out.cz 1
  have z2 := HT.out.cz 2
  have z3 := HT.out.cz 3
  have z4 := HT.out.cz 4
  have z5 := HT.out.cz 5
  have z6 := HT.out.cz 6
  have z7 := HT.out.cz 7
  have zf := HT.out.z.frozen
  have zl := HT.out.z.lt
  have x0 := HT.out.cx 0
  have x1 := HT.out.cx 1
  have x2 := HT.out.cx 2
  have x3 := HT.out.cx 3
  have x4 := HT.out.cx 4
  have x5 := HT.out.cx 5
  have x6 := HT.out.cx 6
  have x7 := HT.out.cx 7
  have xf := HT.out.x.frozen
  have xl := HT.out.x.lt
  simp only [List.getElem?_toArray, List.getElem?_cons_zero, List.getElem?_cons_succ] at z0 z1 z2 z3 z4 z5 z6 z7 x0 x1 x2 x3 x4 x5 x6 x7
  have e1 := HT.out.zx
  have e2 : ¬ w.heap.size + 1 = w.heap.size := by omega

  go_wp2_with (first | (go_at_call 36; refine (hDb _).out.mono ?_; rintro e w' ⟨rfl, rfl⟩) | (go_at_call 48; refine (hSb _).out.mono ?_; rintro e w' ⟨rfl, rfl⟩))

  all_goals go_wp2
  all_goals (refine bodyPost_ret (v := .tuple #[wordV ⟨0, ⟨#[]⟩, 0#256, 0⟩ m, .int .i64 ((m : Nat) : Int), .bool false]) (by simp [results, Tryz.results24, go_sem, wordV, wordC, wz.1, wz.2.1, wz.2.2.1, wz.2.2.2, z0, z1, z2, z3, z4, z5, z6, z7]) rfl (HPost.out false ⟨0, ⟨#[]⟩, 0#256, 0⟩ (m) _ hq1 ?_ HN.out))
  all_goals repeat (first | with_reducible exact HT.out.b | with_reducible refine Below.drew ?_ | with_reducible refine bset ?_ (Nat.le_refl _) _ | with_reducible refine bset ?_ (Nat.le_succ _) _)
end Go.Proofs.YtdodkbpagbblmaaGreatDoor
end
section
namespace Go.Proofs.YtdodkbpagbblmaaGreatDoor
open Go Go.RowKit

/-- The document's Word. -/
theorem word_any (s : ByteArray) (m : Nat) (hs : s.size ≤ 5000) (hm : m < s.size) (w : World) :
    Calls Tryz.prog 24 #[.string s, .int .i64 m] w (WordP s m w) := by
  obtain ⟨b, hb⟩ : ∃ b, b = (s[m]'hm).toNat := ⟨_, rfl⟩
  have hi : ∀ h, (s[m]'h).toNat = b := fun h => hb.symm
  cases hLt : (letB b || decide (b = 95)) with
  | true => exact word_name s m hs hm w b hi hLt
  | false =>
    by_cases c34 : b = 34
    · exact word_text s m hs hm w b hi hLt c34
    · by_cases c91 : b = 91
      · exact word_set s m hs hm w b hi hLt c34 c91
      · cases hdg : digB b with
        | true => exact word_num s m hs hm w b hi hLt c34 c91 hdg
        | false =>
          cases hsg : sgnB b with
          | true => exact word_sign s m hs hm w b hi hLt c34 c91 hdg hsg
          | false => exact word_none s m hs hm w b hi hLt c34 c91 hdg hsg
end Go.Proofs.YtdodkbpagbblmaaGreatDoor
end
section
namespace Go.Proofs.YtdodkbpagbblmaaGreatDoor
open Go Go.RowKit

def lexI : Option Nat → Int
  | some a => a
  | none => 0
def lexE : Option Nat → Int
  | some _ => 130
  | none => 0
/-- What the document's Some leaves. -/
def SomeP (s : ByteArray) (w : World) (e : Ending) (w' : World) : Prop :=
  Below w.heap.size w w' ∧ ∃ v, e = .returned (.tuple #[v, .int .i64 (lexI (lexAt s.data.toList 0).2), .int .i64 (lexE (lexAt s.data.toList 0).2)]) ∧ w'.ownsRow w.heap.size 35 8 v (lexAt s.data.toList 0).1.length (cellsW (lexAt s.data.toList 0).1)

set_option maxRecDepth 100000 in
set_option maxHeartbeats 16000000 in
/-- The document's Some. -/
theorem some_any (s : ByteArray) (hs : s.size ≤ 5000) (w : World) : Calls Tryz.prog 10 #[.string s] w (SomeP s w) := by
  have d1 : ¬ (1048576 : Int) < s.size := by omega
  obtain ⟨i0, hi, hz0, hz1, hz2⟩ := info_parts Tryz.info35
  have hO0 : Hid (w.ownsRow w.heap.size 35 8 (.slice none 0 0) ([] : List (Wd × Nat)).length (cellsW [])) := World.ownsRow_nil _ _ _ _
  have hB0 : Hid (Below w.heap.size w w) := Below.refl _ w
  have HSk := Lib.hid (fun k (hk : k ≤ s.size) w' => rskip_any s k (by omega) hk w')
  have hsk0 := skipL_le s.data.toList
  rw [← Lib.size_eq] at hsk0
  have HS0 := HSk.out 0 (Nat.zero_le _)
  rw [List.drop_zero, Nat.zero_add, show ((0 : Nat) : Int) = 0 from rfl] at HS0
  obtain ⟨k1, hk1⟩ : ∃ k1, k1 = skipL s.data.toList := ⟨_, rfl⟩
  rw [← hk1] at HS0 hsk0
  have HL0 : Hid (k1 = 0 + skipL (s.data.toList.drop 0)) := Lib.hid (by rw [List.drop_zero, hk1]; omega)
  have HS0 := fun w' => Lib.hid (HS0 w')
  clear hk1
  go_enter Tryz.func10, Tryz.ntmps10
  go_wp2_with (go_at_call 23; (with_reducible refine (HS0 _).out.mono ?_); rintro e w' ⟨rfl, rfl⟩)
  go_loopg [5, 6, 7, 8, 9] (s.size - k1) (fun n v i a b c wr =>  ∃ (k0 k : Nat) (ws : List (Wd × Nat)), i = .int .i64 k ∧ k ≤ s.size ∧ n = s.size - k ∧ ws.length ≤ k0 ∧ k0 ≤ k ∧ Hid (k = k0 + skipL (s.data.toList.drop k0))
      ∧ Hid (lexAt s.data.toList 0 = (ws ++ (lexAt (s.data.toList.drop k0) k0).1, (lexAt (s.data.toList.drop k0) k0).2))
      ∧ Hid (wr.ownsRow w.heap.size 35 8 v ws.length (cellsW ws)) ∧ Hid (Below w.heap.size w wr))
  case atStart => exact ⟨0, k1, [], rfl, hsk0, rfl, Nat.le_refl _, by omega, HL0, Lib.hid (by simp), hO0, hB0⟩
  case round =>
    clear hO0 hB0 HS0 HL0 hsk0
    obtain ⟨k0, m, ws, rfl, hmt, rfl, hws, hkm, hK, hL, hO, hB⟩ := hrel
    have hdd : (s.data.toList.drop k0).drop (skipL (s.data.toList.drop k0)) = s.data.toList.drop m := by rw [List.drop_drop, hK.out]
    by_cases hlt : m < s.size
    · have n1 : (m : Int) < (s.size : Int) := by omega
      have hne0 : (s.data.toList.drop k0).drop (skipL (s.data.toList.drop k0)) ≠ [] := fun e => by
        have := congrArg List.length e
        rw [hdd, drop_len] at this
        simp at this
        omega
      have hWd := word_any s m hs hlt wr
      have HWd := Lib.hid hWd
      clear hWd
      cases hnw : nextW (s.data.toList.drop m) with
      | none =>
        have HN : Hid (lexAt s.data.toList 0 = (ws, some m)) := Lib.hid (by
          rw [hL.out, lexAt_bad _ _ hne0 (by rw [hdd]; exact hnw), ← hK.out]; simp)
        have hBn := Lib.hid hnw
        clear hL hdd hne0 hnw hK
        go_wp2_with fail
        refine HWd.out.mono ?_
        rintro e w1 ⟨hB1, h1⟩
        rw [hBn.out] at h1
        obtain ⟨x, n, rfl⟩ := h1
        have hB2 := Lib.hid (hB.out.trans (hB1.mono hB.out.size))
        have hO1 := Lib.hid (own_below hO.out hB1 (by have := hB.out.size; omega))
        have hsz1 : w.heap.size ≤ w1.heap.size := hB2.out.size
        clear hB1 hB hO HWd hBn
        unfold wordV wordC
        go_wp2
        go_ret3
        refine ⟨hB2.out.alloc hsz1 _, u5, ?_, ?_⟩
        · rw [HN.out]; rfl
        · rw [HN.out]; exact hO1.out.alloc _
      | some p =>
        have hst := lexAt_step _ k0 p hne0 (by rw [hdd]; exact hnw)
        rw [hdd, List.drop_drop, ← hK.out] at hst
        have hlen := nextW_len _ p hnw
        rw [drop_len] at hlen
        have HN : Hid (lexAt s.data.toList 0 = ((ws ++ [(p.1, m)]) ++ (lexAt (s.data.toList.drop (m + p.2)) (m + p.2)).1, (lexAt (s.data.toList.drop (m + p.2)) (m + p.2)).2)) := Lib.hid (by rw [hL.out, hst]; simp)
        have hBn := Lib.hid hnw
        have hq : m + p.2 ≤ s.size := by omega
        have hS1 := HSk.out (m + p.2) hq
        have hsk := skipL_le (s.data.toList.drop (m + p.2))
        rw [drop_len] at hsk
        obtain ⟨Q, hQ⟩ : ∃ Q, Q = m + p.2 := ⟨_, rfl⟩
        rw [← hQ] at hS1 hsk HN hq
        obtain ⟨K, hKe⟩ : ∃ K, K = Q + skipL (s.data.toList.drop Q) := ⟨_, rfl⟩
        rw [← hKe] at hS1
        have HS1 := fun w' => Lib.hid (hS1 w')
        have HKe := Lib.hid hKe
        have HQ := Lib.hid hQ
        have hK1 : Q ≤ K := by omega
        have hK2 : K ≤ s.size := by omega
        have hQm : m < Q := by omega
        clear hL hdd hne0 hnw hK hst hlen hS1 hsk hKe hQ
        go_wp2_with fail
        refine HWd.out.mono ?_
        rintro e w1 ⟨hB1, h1⟩
        rw [hBn.out] at h1
        simp only at h1
        rw [← HQ.out] at h1
        subst h1
        have hB2 := Lib.hid (hB.out.trans (hB1.mono hB.out.size))
        have hO1 := Lib.hid (own_below hO.out hB1 (by have := hB.out.size; omega))
        have hsz1 : w.heap.size ≤ w1.heap.size := hB2.out.size
        clear hB1 hB hO HWd hBn HQ
        unfold wordV wordC
        go_wp2_with (first | (go_at_call 23; (with_reducible refine (HS1 _).out.mono ?_); rintro e w' ⟨rfl, rfl⟩) | (at_builtin; refine wpList_append_own _ rfl _ _ 23 rfl w.heap.size 35 i0 _ 8 72 Tryz.underlying23 hi hz0 hz1 hz2 rfl (by decide) _ _ _ rfl ((hO1.out.alloc _).alloc _) ⟨w1.heap.size + 1, 0, none⟩ 1 1 (wcells (p.1, m)) rfl rfl (cell_eight_next w1 _ _ _ _ _ _ _ _ _ 35) (by simp [wcells, Value.oneCell']) (by unfold maxLen; omega) (by omega) (by simp; omega) ?_; intro v2 w2 hown2 hgrow _))
        have hB3 : Below w.heap.size w1 ((w1.alloc (.cells #[.int .i64 p.1.kind, .int .i64 (m : Int), .string p.1.txt, .int .u64 (wdI p.1.set 0), .int .u64 (wdI p.1.set 1), .int .u64 (wdI p.1.set 2), .int .u64 (wdI p.1.set 3), .int .i64 p.1.num] 35)).alloc (.cells #[.int .i64 p.1.kind, .int .i64 (m : Int), .string p.1.txt, .int .u64 (wdI p.1.set 0), .int .u64 (wdI p.1.set 1), .int .u64 (wdI p.1.set 2), .int .u64 (wdI p.1.set 3), .int .i64 p.1.num] 35)) := ((Below.refl _ w1).alloc hsz1 _).alloc (by simp; omega) _
        have hB4 := Lib.hid (hB2.out.trans (hB3.grown hgrow (by simp; omega) (fun i e => (hO1.out.lt i e).1)))
        have hO2 : Hid (w2.ownsRow w.heap.size 35 8 v2 (ws ++ [(p.1, m)]).length (cellsW (ws ++ [(p.1, m)]))) := by
          refine Lib.hid ?_
          rw [cellsW_snoc, List.length_append]
          exact hown2
        clear hown2 hgrow hB3 hO1 hB2
        go_roundg (s.size - K)
        case measure => omega
        case rel => exact ⟨Q, K, ws ++ [(p.1, m)], rfl, hK2, rfl, by simp; omega, hK1, HKe, HN, hO2, hB4⟩
    · obtain rfl : m = s.size := by omega
      have HN : Hid (lexAt s.data.toList 0 = (ws, none)) := Lib.hid (by
        rw [hL.out, lexAt_end _ _ (by rw [hdd]; exact drop_end s _ (Nat.le_refl _))]; simp)
      clear hL hdd hK
      go_wp2
      go_ret3
      refine ⟨hB.out, u5, ?_, ?_⟩
      · rw [HN.out]; rfl
      · rw [HN.out]; exact hO.out

/-- What the document's Lex leaves. -/
def RLexP (s : ByteArray) (w : World) (e : Ending) (w' : World) : Prop :=
  Below w.heap.size w w' ∧ ((∃ a, (lexAt s.data.toList 0).2 = some a ∧ e = .returned (.tuple #[.slice none 0 0, .int .i64 a, .int .i64 130]))
    ∨ ((lexAt s.data.toList 0).2 = none ∧ ∃ v, e = .returned (.tuple #[v, .int .i64 0, .int .i64 0]) ∧ w'.ownsRow w.heap.size 35 8 v (lexAt s.data.toList 0).1.length (cellsW (lexAt s.data.toList 0).1)))

set_option maxRecDepth 100000 in
set_option maxHeartbeats 4000000 in
/-- The document's Lex. -/
theorem rlex_any (s : ByteArray) (hs : s.size ≤ 5000) (w : World) : Calls Tryz.prog 8 #[.string s] w (RLexP s w) := by
  have HS := Lib.hid (some_any s hs w)
  obtain ⟨ws, hws⟩ : ∃ ws, ws = (lexAt s.data.toList 0).1 := ⟨_, rfl⟩
  cases ho : (lexAt s.data.toList 0).2 with
  | some a =>
    have Ho := Lib.hid ho
    clear ho
    go_enter Tryz.func8, Tryz.ntmps8
    go_wp2_with fail
    refine HS.out.mono ?_
    rintro e w1 ⟨hB, v, rfl, hown⟩
    rw [Ho.out]
    have HB := Lib.hid hB
    clear hown hB
    dsimp only [lexI, lexE]
    go_wp2
    go_ret3
    exact ⟨HB.out, .inl ⟨a, Ho.out, rfl⟩⟩
  | none =>
    have Ho := Lib.hid ho
    clear ho
    go_enter Tryz.func8, Tryz.ntmps8
    go_wp2_with fail
    refine HS.out.mono ?_
    rintro e w1 ⟨hB, v, rfl, hown⟩
    rw [Ho.out]
    have HB := Lib.hid hB
    have HO := Lib.hid hown
    clear hown hB
    dsimp only [lexI, lexE]
    go_wp2
    go_ret3
    exact ⟨HB.out, .inr ⟨Ho.out, v, rfl, HO.out⟩⟩
end Go.Proofs.YtdodkbpagbblmaaGreatDoor
end
section
namespace Go.Proofs.YtdodkbpagbblmaaGreatDoor
open Go Go.RowKit

/-! A range over a function whose function has memory of its own, that it writes between two rounds: what the loop's owner says hangs on blocks below the loop alone. -/

/-- All that lies at B or above, and the program's first five blocks, lie as they lay. -/
structure KeepUp (B : Nat) (W W' : World) : Prop where
  size : W.heap.size ≤ W'.heap.size
  up : ∀ (k : Nat) (o : Obj), B ≤ k → W.heap[k]? = some o → W'.heap[k]? = some o
  low : ∀ k, k < 5 → W'.heap[k]? = W.heap[k]?
theorem KeepUp.refl (B : Nat) (W : World) : KeepUp B W W := ⟨Nat.le_refl _, fun _ _ _ h => h, fun _ _ => rfl⟩
theorem KeepUp.trans {B : Nat} {X Y Z : World} (h : KeepUp B X Y) (k : KeepUp B Y Z) : KeepUp B X Z :=
  ⟨Nat.le_trans h.size k.size, fun i o hB ho => k.up i o hB (h.up i o hB ho), fun i hi => (k.low i hi).trans (h.low i hi)⟩
theorem KeepUp.mono {A B : Nat} {X Y : World} (h : KeepUp A X Y) (hAB : A ≤ B) : KeepUp B X Y := ⟨h.size, fun i o hB ho => h.up i o (by omega) ho, h.low⟩
theorem KeepUp.of_below {B n : Nat} {X Y : World} (h : Below n X Y) (hn : X.heap.size ≤ n) (h5 : 5 ≤ n) : KeepUp B X Y :=
  ⟨h.size, fun i o _ ho => (h.block i (by have := (Array.getElem?_eq_some_iff.1 ho).1; omega)).trans ho, fun i hi => h.block i (by omega)⟩
theorem KeepUp.put {B l : Nat} {X : World} {o : Obj} (hl : l < B) (h5 : 5 ≤ l) : KeepUp B X (X.putObj l o) :=
  ⟨(grownBy_putObj' _ _ _).size, fun i o' hB ho => (World.putObj_heap_other (by omega)).trans ho, fun i hi => World.putObj_heap_other (by omega)⟩

/-- The iterator's word: these elements, in order, as long as it is told to go on. -/
def LowSeq {α : Type} (n : Nat) (P : Program) (g : Nat) (lb : Array Value) (encs : α → Array Value) (xs : List α) (w : World) : Prop :=
  ∀ (l : Nat) (J Jx : List α → World → Prop) (W : World), Below w.heap.size w W →
    (∀ s A B, J s A → Below W.heap.size A B → J s B) → (∀ s A B, Jx s A → Below W.heap.size A B → Jx s B) →
    (∀ pre x W1, pre ++ [x] <+: xs → J pre W1 → YieldAt Fence.wide (n - 1) P l (encs x) W1 fun e W' =>
      (e = .returned (.bool true) ∧ J (pre ++ [x]) W' ∧ KeepUp W.heap.size W1 W') ∨ (e = .returned (.bool false) ∧ Jx (pre ++ [x]) W')) →
    J [] W → CallsIn Fence.wide n P g (#[.func (.yield l) #[] #[]] ++ lb) W fun e W' => (∃ v, e = .returned v) ∧ (J xs W' ∨ ∃ pre, pre <+: xs ∧ Jx pre W')

/-- How a round's body may be left. -/
def lowPost {α : Type} (B : Nat) (I : List α → World → Prop) (Ix : Code → List α → World → Prop) (ys : List α) (W : World) : Exit → Act → World → Prop
  | .normal, _, W' => KeepUp B W W' ∧ I ys W'
  | .ret, _, W' => KeepUp B W W' ∧ Ix .ret ys W'
  | .exit id, _, W' => KeepUp B W W' ∧ Ix (.exit id) ys W'
  | .goto t, _, W' => KeepUp B W W' ∧ Ix (.goto t) ys W'
  | .panic _, _, _ => False
  | .outgrown, _, _ => False

theorem rangeFunc_low {α : Type} {P : Program} {n : Nat} {g : Operand} {ps : Array Tmp} {assign body : Code} {Q : Exit → Act → World → Prop} {a : Act} {w : World}
    (h1 : 1 ≤ n) (h5 : 5 ≤ w.heap.size) {gf : Nat} {lb : Array Value} (hg : a.eval g = .func (.func gf) #[] lb) (eg : ∀ args w, (callFunc gf args).run P w = .ok (.enter gf args) w)
    {encs : α → Array Value} {xs : List α} (hseq : LowSeq (n - 1) P gf lb encs xs w) (hps : ∀ x, (encs x).size = ps.size)
    (I : List α → World → Prop) (Ix : Code → List α → World → Prop) (hI : ∀ s A B, I s A → Below w.heap.size A B → I s B) (hIx : ∀ c s A B, Ix c s A → Below w.heap.size A B → Ix c s B) (h0 : I [] w)
    (hround : ∀ (l : Nat) (pre : List α) (x : α) (W : World), pre ++ [x] <+: xs → I pre W → w.heap.size + 2 ≤ W.heap.size →
      assign.wpIn (Fence.wide.inRound l) (n - 1 - 1) P (Exit.then (fun a₁ W₁ => KeepUp w.heap.size W W₁ ∧ ∀ W₂, (∃ o, W₂ = W₁.putObj (w.heap.size + 1) o) → (∃ r, W₁.heap[w.heap.size + 1]? = some (.loop r)) →
        body.wpIn (Fence.wide.inRound l) (n - 1 - 1) P (lowPost w.heap.size I Ix (pre ++ [x]) W₂) a₁ W₂) (fun _ _ _ => False))
        { tmps := (ps.zip (encs x)).foldl (fun t (p, v) => t.setIfInBounds p v) a.tmps, defers := [] } W)
    (hdone : ∀ (D : Nat) (W : World), w.heap.size ≤ D → I xs W → W.heap[D]? = some (.deferred (some [])) → Q .normal { a with defers := { target := .collected D, args := #[] } :: a.defers } W)
    (hstop : ∀ (D : Nat) (c : Code) (pre : List α) (W : World), w.heap.size ≤ D → pre <+: xs → Ix c pre W → W.heap[D]? = some (.deferred (some [])) → c.wpIn Fence.wide n P Q { a with defers := { target := .collected D, args := #[] } :: a.defers } W) :
    (Code.rangeFunc g ps assign body).wpIn Fence.wide n P Q a w := by
  refine wpIn_rangeFunc fun fn hfn => ?_
  obtain ⟨rec, hrec⟩ : ∃ rec : LoopState → Option Code → Loop, rec = fun st pe => { state := st, pending := pe, fn, tmps := a.tmps, params := ps, assign, body, defers := w.heap.size } := ⟨_, rfl⟩
  obtain ⟨W1, hW1⟩ : ∃ W1, W1 = (w.alloc (.deferred (some []))).alloc (.loop (rec .ready none)) := ⟨_, rfl⟩
  have hs1 : W1.heap.size = w.heap.size + 2 := by rw [hW1]; simp
  have hb1 : Below w.heap.size w W1 := by rw [hW1]; exact ((Below.refl _ w).alloc (Nat.le_refl _) _).alloc (by simp) _
  have hl1 : W1.heap[w.heap.size + 1]? = some (.loop (rec .ready none)) := by
    have h := World.alloc_heap_new (w.alloc (.deferred (some []))) (.loop (rec .ready none))
    rw [World.size_alloc] at h
    rw [hW1]; exact h
  have hd1 : W1.heap[w.heap.size]? = some (.deferred (some [])) := by
    rw [hW1]; exact (Below.heap_alloc _ _ _ (by simp)).trans (World.alloc_heap_new w _)
  refine ⟨w.heap.size + 1, [{ target := .collected w.heap.size, args := #[] }], W1, { target := .fn (.func gf) lb, args := #[.func (.yield (w.heap.size + 1)) #[] #[]] }, W1, gf,
    #[.func (.yield (w.heap.size + 1)) #[] #[]] ++ lb, W1, ?_, ?_, fun _ _ => trivial, ?_, fun _ => h1, ?_⟩
  · rw [hW1, hrec]; exact run_enterLoop_outer _ _ _ _ _
  · simp only [resolve, hg]
    simp [go_sem]
  · simp [invoke, go_sem, eg]
  · -- what the owner says, beside the loop's two blocks
    have hbook : ∀ {A B : World} {k : Nat} {o : Obj}, k < w.heap.size + 2 → A.heap[k]? = some o → Below W1.heap.size A B → B.heap[k]? = some o := fun hk ho hB => (hB.block _ (by omega)).trans ho
    have hput : ∀ {W : World} {s : List α} (o : Obj), I s W → I s (W.putObj (w.heap.size + 1) o) := fun {W s} o h => hI s W _ h ⟨rfl, rfl, rfl, (grownBy_putObj' _ _ _).size, fun k hk => World.putObj_heap_other (by omega)⟩
    have hputx : ∀ {W : World} {s : List α} {c : Code} (o : Obj), Ix c s W → Ix c s (W.putObj (w.heap.size + 1) o) := fun {W s c} o h => hIx c s W _ h ⟨rfl, rfl, rfl, (grownBy_putObj' _ _ _).size, fun k hk => World.putObj_heap_other (by omega)⟩
    refine (hseq (w.heap.size + 1)
      (fun pre W => I pre W ∧ W.heap[w.heap.size + 1]? = some (.loop (rec .ready none)) ∧ W.heap[w.heap.size]? = some (.deferred (some [])))
      (fun pre W => ∃ c, Ix c pre W ∧ W.heap[w.heap.size + 1]? = some (.loop (rec .done (some c))) ∧ W.heap[w.heap.size]? = some (.deferred (some [])))
      W1 hb1
      (fun s A B h hB => ⟨hI s A B h.1 (hB.mono (by omega)), hbook (by omega) h.2.1 hB, hbook (by omega) h.2.2 hB⟩)
      (fun s A B h hB => by
        obtain ⟨c, hc, hl, hd⟩ := h
        exact ⟨c, hIx c s A B hc (hB.mono (by omega)), hbook (by omega) hl hB, hbook (by omega) hd hB⟩)
      ?_ ⟨hI [] w W1 h0 hb1, hl1, hd1⟩).mono ?_
    · rintro pre x W hpre ⟨hi, hl, hd⟩
      have hlt : w.heap.size + 1 < W.heap.size := (Array.getElem?_eq_some_iff.1 hl).1
      have hy := run_yield (P := P) (args := encs x) hl (by rw [hrec]; exact hps x)
      rw [hrec] at hy
      refine ⟨fn, _, assign, body, hy, roundIn_of_wpIn hfn (wpIn_mono (hround (w.heap.size + 1) pre x W hpre hi (by omega)) ?_)⟩
      rintro e a1 Wa hp
      cases e with
      | normal =>
        obtain ⟨hka, hbd⟩ := hp
        have hla := hka.up _ _ (by omega) hl
        have hda := hka.up _ _ (Nat.le_refl _) hd
        refine ⟨_, run_beginRound hla (by rw [hrec]), wpIn_mono (hbd _ ⟨_, rfl⟩ ⟨_, hla⟩) ?_⟩
        have hlta : w.heap.size + 1 < Wa.heap.size := (Array.getElem?_eq_some_iff.1 hla).1
        have hl2 : (Wa.putObj (w.heap.size + 1) (.loop { rec .ready none with state := .busy })).heap[w.heap.size + 1]? = some (.loop { rec .ready none with state := .busy }) := World.putObj_heap_same hlta
        have hd2 : (Wa.putObj (w.heap.size + 1) (.loop { rec .ready none with state := .busy })).heap[w.heap.size]? = some (.deferred (some [])) := (World.putObj_heap_other (by omega)).trans hda
        have hend : ∀ (jump : Option Code) (W3 : World), KeepUp w.heap.size (Wa.putObj (w.heap.size + 1) (.loop { rec .ready none with state := .busy })) W3 →
            (Instr.endRound (w.heap.size + 1) jump).run P W3 = .ok (.bool jump.isNone) (W3.putObj (w.heap.size + 1) (.loop (rec (if jump.isNone then .ready else .done) jump))) ∧
            (W3.putObj (w.heap.size + 1) (.loop (rec (if jump.isNone then .ready else .done) jump))).heap[w.heap.size + 1]? = some (.loop (rec (if jump.isNone then .ready else .done) jump)) ∧
            (W3.putObj (w.heap.size + 1) (.loop (rec (if jump.isNone then .ready else .done) jump))).heap[w.heap.size]? = some (.deferred (some [])) := fun jump W3 hk3 => by
          have hl3 := hk3.up _ _ (by omega) hl2
          have hd3 := hk3.up _ _ (Nat.le_refl _) hd2
          have he := run_endRound (P := P) jump hl3
          rw [hrec] at he ⊢
          exact ⟨he, World.putObj_heap_same (Array.getElem?_eq_some_iff.1 hl3).1, (World.putObj_heap_other (by omega)).trans hd3⟩
        rintro e2 a3 W3 hq
        cases e2 with
        | normal =>
          obtain ⟨hk3, hi3⟩ := hq
          obtain ⟨hr, hl4, hd4⟩ := hend none W3 hk3
          refine ⟨_, _, hr, .inl ⟨rfl, ⟨hput _ hi3, hl4, hd4⟩, ?_⟩⟩
          exact ((hka.mono (by omega)).trans (KeepUp.put (by omega) (by omega))).trans ((hk3.mono (by omega)).trans (KeepUp.put (by omega) (by omega)))
        | ret =>
          obtain ⟨hk3, hi3⟩ := hq
          obtain ⟨hr, hl4, hd4⟩ := hend (some .ret) W3 hk3
          exact ⟨_, _, hr, .inr ⟨rfl, .ret, hputx _ hi3, hl4, hd4⟩⟩
        | exit id =>
          obtain ⟨hk3, hi3⟩ := hq
          obtain ⟨hr, hl4, hd4⟩ := hend (some (.exit id)) W3 hk3
          exact ⟨_, _, hr, .inr ⟨rfl, .exit id, hputx _ hi3, hl4, hd4⟩⟩
        | goto t =>
          obtain ⟨hk3, hi3⟩ := hq
          obtain ⟨hr, hl4, hd4⟩ := hend (some (.goto t)) W3 hk3
          exact ⟨_, _, hr, .inr ⟨rfl, .goto t, hputx _ hi3, hl4, hd4⟩⟩
        | panic ch => exact hq.elim
        | outgrown => exact hq.elim
      | ret => exact hp.elim
      | exit id => exact hp.elim
      | goto t => exact hp.elim
      | panic ch => exact hp.elim
      | outgrown => exact hp.elim
    · rintro e W2 ⟨⟨v, rfl⟩, (⟨hi, hl, hd⟩ | ⟨pre, hpre, c, hi, hl, hd⟩)⟩
      · have he := run_endLoop (P := P) hl (by rw [hrec]; simp)
        rw [hrec] at he
        exact ⟨none, _, he, hdone _ _ (Nat.le_refl _) (hput _ hi) ((World.putObj_heap_other (by omega)).trans hd)⟩
      · have he := run_endLoop (P := P) hl (by rw [hrec]; simp)
        rw [hrec] at he
        exact ⟨some c, _, he, hstop _ c pre _ (Nat.le_refl _) hpre (hputx _ hi) ((World.putObj_heap_other (by omega)).trans hd)⟩
end Go.Proofs.YtdodkbpagbblmaaGreatDoor
end
section
namespace Go.Proofs.YtdodkbpagbblmaaGreatDoor
open Go Go.RowKit

attribute [local go_sem] Oper.semAt_some

/-- Words by their numbers. -/
def enumF : Nat → List (Wd × Nat) → List (Nat × (Wd × Nat))
  | _, [] => []
  | k, p :: r => (k, p) :: enumF (k + 1) r
theorem enumF_append (a b : List (Wd × Nat)) : ∀ k, enumF k (a ++ b) = enumF k a ++ enumF (k + a.length) b := by
  induction a with
  | nil => intro k; rfl
  | cons p r ih =>
    intro k
    show (k, p) :: enumF (k + 1) (r ++ b) = (k, p) :: (enumF (k + 1) r ++ enumF (k + (r.length + 1)) b)
    rw [ih (k + 1), show k + 1 + r.length = k + (r.length + 1) by omega]
theorem enumF_snoc (a : List (Wd × Nat)) (p : Wd × Nat) : enumF 0 (a ++ [p]) = enumF 0 a ++ [(a.length, p)] := by
  rw [enumF_append]; simp [enumF]
theorem enumF_length (a : List (Wd × Nat)) : ∀ k, (enumF k a).length = a.length := by
  induction a with
  | nil => intro k; rfl
  | cons p r ih => intro k; show (enumF (k + 1) r).length + 1 = r.length + 1; rw [ih]
/-- What is told of a word. -/
def encW (x : Nat × (Wd × Nat)) : Array Value := #[.int .i64 x.1, wordV x.2.1 x.2.2]

theorem KeepUp.blk {B b t : Nat} {cs : Array Value} {W W' : World} (h : KeepUp B W W') (hb : B ≤ b) (k : Blk W b t cs) : Blk W' b t cs := h.up b _ hb k
theorem KeepUp.glob {B : Nat} {W W' : World} (h : KeepUp B W W') (hG : GlobD W) : GlobD W' := hG.at5 h.low h.size

set_option maxRecDepth 100000 in
set_option maxHeartbeats 8000000 in
/-- Going over a text tells its words, in order, up to the first that can't be read. -/
theorem all1_low (n : Nat) (hn : 1 ≤ n) (Bn : Nat) (t : ByteArray) (ht : t.size ≤ 5000) (w : World) (hBn : Blk w Bn 9 #[.string t]) (hG : GlobD w) :
    LowSeq n Tryz.prog 25 #[.pointer (some ⟨Bn, 0, none⟩)] encW (enumF 0 (lexAt t.data.toList 0).1) w := by
  intro l J Jx W hW hJ hJx hY h0
  have c0 : W.cell? ⟨Bn, 0, none⟩ = some (.string t) := (hBn.below hW hBn.lt).cell 0
  have n1 : ¬ (1048576 : Int) < (t.size : Int) := by omega
  have hmf : ∀ (fn : Fn) (first cap : Array Value) (w : World), (Instr.makeFunc fn first cap).run Tryz.prog w = .ok (.func fn first cap) w := fun _ _ _ _ => rfl
  have hGW : Hid (GlobD (W.alloc (.cells #[.string t, .int .i64 0] 49))) := Lib.hid (hG.below (Nat.le_refl _) (hW.trans (((Below.refl _ W).alloc (Nat.le_refl _) _).mono hW.size)))
  have hR0 : Hid (Rdr (W.alloc (.cells #[.string t, .int .i64 0] 49)) W.heap.size t 0) := Lib.hid (Blk.new W 49 _)
  have hJ0 : Hid (J (enumF 0 []) (W.alloc (.cells #[.string t, .int .i64 0] 49))) := Lib.hid (hJ _ _ _ h0 ((Below.refl _ W).alloc (Nat.le_refl _) _))
  have hS0 : W.heap.size < (W.alloc (.cells #[.string t, .int .i64 0] 49)).heap.size := by simp
  have hB4 : 4 < W.heap.size := Nat.lt_of_lt_of_le hG.big hW.size
  have HY := Lib.hid hY
  have HJ := Lib.hid hJ
  clear hBn hY hW hJ h0 hG
  refine callsIn_of_wp Tryz.func25 rfl trivial ?_ rfl
  simp only [Tryz.ntmps25, List.size_toArray, List.length_cons, List.length_nil, Nat.reduceAdd, Nat.reduceSub, Array.replicate_succ, Array.replicate_zero, List.push_toArray, List.append_toArray, List.nil_append, List.cons_append]
  gi_wp2
  gi_loopw [5, 6, 7, 8] (fun i a b c wr => ∃ (k : Nat) (ws : List (Wd × Nat)), i = .int .i64 (ws.length : Nat) ∧ k ≤ t.size ∧ ws.length ≤ k
      ∧ Hid (lexAt t.data.toList 0 = (ws ++ (lexAt (t.data.toList.drop k) k).1, (lexAt (t.data.toList.drop k) k).2))
      ∧ Hid (Rdr wr W.heap.size t k) ∧ Hid (GlobD wr) ∧ Hid (J (enumF 0 ws) wr) ∧ W.heap.size < wr.heap.size)
    (fun i _ _ _ _ => t.size - (intOf i).toNat)
  case atStart => exact ⟨0, [], rfl, Nat.zero_le _, Nat.le_refl _, Lib.hid (by simp), hR0, hGW, hJ0, hS0⟩
  case round =>
    clear hGW hR0 hJ0 hS0
    obtain ⟨k, ws, rfl, hk, hws, hL, hR, hG, hJ, hsz⟩ := hrel
    have hsk := skipL_le (t.data.toList.drop k)
    rw [drop_len] at hsk
    have HT := Lib.hid (taken_any W.heap.size t k (by omega) hk wr hG.out hR.out hB4)
    have hdd : (t.data.toList.drop k).drop (skipL (t.data.toList.drop k)) = t.data.toList.drop (k + skipL (t.data.toList.drop k)) := List.drop_drop
    have HE : Hid (k + skipL (t.data.toList.drop k) = t.size → lexAt t.data.toList 0 = (ws, none)) := Lib.hid (fun h => by
      rw [hL.out, lexAt_end _ _ (by rw [hdd, h]; exact drop_end t _ (Nat.le_refl _))]; simp)
    have hne0 : k + skipL (t.data.toList.drop k) ≠ t.size → (t.data.toList.drop k).drop (skipL (t.data.toList.drop k)) ≠ [] := fun h e => by
      have := congrArg List.length e
      rw [hdd, drop_len] at this
      simp at this
      omega
    have HBad : Hid (k + skipL (t.data.toList.drop k) ≠ t.size → nextW (t.data.toList.drop (k + skipL (t.data.toList.drop k))) = none → lexAt t.data.toList 0 = (ws, some (k + skipL (t.data.toList.drop k)))) :=
      Lib.hid (fun h h2 => by rw [hL.out, lexAt_bad _ _ (hne0 h) (by rw [hdd]; exact h2)]; simp)
    have HSt : Hid (∀ p, k + skipL (t.data.toList.drop k) ≠ t.size → nextW (t.data.toList.drop (k + skipL (t.data.toList.drop k))) = some p → lexAt t.data.toList 0 = ((ws ++ [(p.1, k + skipL (t.data.toList.drop k))]) ++ (lexAt (t.data.toList.drop (k + skipL (t.data.toList.drop k) + p.2)) (k + skipL (t.data.toList.drop k) + p.2)).1, (lexAt (t.data.toList.drop (k + skipL (t.data.toList.drop k) + p.2)) (k + skipL (t.data.toList.drop k) + p.2)).2)) := by
      refine Lib.hid fun p h h2 => ?_
      have := lexAt_step (t.data.toList.drop k) k p (hne0 h) (by rw [hdd]; exact h2)
      rw [hdd, List.drop_drop] at this
      rw [hL.out, this]; simp
    obtain ⟨m, hm⟩ : ∃ m, m = k + skipL (t.data.toList.drop k) := ⟨_, rfl⟩
    rw [← hm] at HT HE HBad HSt
    have hmt : m ≤ t.size := by omega
    have hkm : k ≤ m := by omega
    have Hlen : Hid (∀ p, nextW (t.data.toList.drop m) = some p → 1 ≤ p.2 ∧ m + p.2 ≤ t.size) := Lib.hid (fun p h => by
      have := nextW_len _ p h
      rw [drop_len] at this
      omega)
    by_cases hend : m = t.size
    · have HT2 : Hid (Calls Tryz.prog 22 #[.func (.func 21) #[.pointer (some ⟨W.heap.size, 0, none⟩)] #[]] wr fun e w' => e = .returned (.tuple #[.agg #[.int .i64 0, .int .i64 0, .string ⟨#[]⟩, .int .u64 (wdI 0#256 0), .int .u64 (wdI 0#256 1), .int .u64 (wdI 0#256 2), .int .u64 (wdI 0#256 3), .int .i64 0], .bool false, .int .i64 0]) ∧ wr.grownBy w' (some W.heap.size)) := Lib.hid (HT.out.mono fun e w' h => by
        obtain ⟨h1, h2⟩ := h
        rw [if_pos hend] at h2
        exact ⟨h2.1, h1⟩)
      have HX : Hid ((lexAt t.data.toList 0).1 = ws) := Lib.hid (by rw [HE.out hend])
      have HJ0 := Lib.hid (fun (w1 : World) (hB : Below W.heap.size wr w1) => HJ.out _ _ _ hJ.out hB)
      clear hm hdd hne0 hsk hL hR HT HE HBad HSt Hlen hJ hG
      gi_wp2_with (refine ⟨trivial, ?_⟩; gi_at_call 22; refine (callsIn_wide.2 HT2.out).mono ?_; rintro e w1 ⟨rfl, hg1⟩)
      have hB1 : Below W.heap.size wr w1 := (Below.refl W.heap.size wr).grown hg1 (Nat.le_of_lt hsz) (fun i e => by cases e; exact Nat.le_refl _)
      have hsz1 : W.heap.size < w1.heap.size := Nat.lt_of_lt_of_le hsz hg1.size
      have HJ1 := Lib.hid (HJ0.out _ (hB1.alloc (Nat.le_of_lt hsz1) (.cells #[.int .i64 0, .int .i64 0, .string ⟨#[]⟩, .int .u64 (wdI 0#256 0), .int .u64 (wdI 0#256 1), .int .u64 (wdI 0#256 2), .int .u64 (wdI 0#256 3), .int .i64 0] 35)))
      clear hB1 hg1 HT2
      gi_wp2
      refine ⟨(by intro f h; cases h), ?_⟩
      gi_wp2
      first | go_end0 | refine bodyPost_ret (results_none rfl _ _ _) rfl ?_
      exact ⟨⟨_, rfl⟩, .inl (by rw [HX.out]; exact HJ1.out)⟩
    · cases hnw : nextW (t.data.toList.drop m) with
      | none =>
        have HT2 : Hid (Calls Tryz.prog 22 #[.func (.func 21) #[.pointer (some ⟨W.heap.size, 0, none⟩)] #[]] wr fun e w' => e = .returned (.tuple #[.agg #[.int .i64 0, .int .i64 0, .string ⟨#[]⟩, .int .u64 (wdI 0#256 0), .int .u64 (wdI 0#256 1), .int .u64 (wdI 0#256 2), .int .u64 (wdI 0#256 3), .int .i64 0], .bool false, .int .i64 130]) ∧ wr.grownBy w' (some W.heap.size)) := Lib.hid (HT.out.mono fun e w' h => by
          obtain ⟨h1, h2⟩ := h
          rw [if_neg hend, hnw] at h2
          exact ⟨h2.1, h1⟩)
        have HX : Hid ((lexAt t.data.toList 0).1 = ws) := Lib.hid (by rw [HBad.out hend hnw])
        have HJ0 := Lib.hid (fun (w1 : World) (hB : Below W.heap.size wr w1) => HJ.out _ _ _ hJ.out hB)
        clear hm hdd hne0 hsk hL hR HT HE HBad HSt Hlen hJ hG
        gi_wp2_with (refine ⟨trivial, ?_⟩; gi_at_call 22; refine (callsIn_wide.2 HT2.out).mono ?_; rintro e w1 ⟨rfl, hg1⟩)
        have hB1 : Below W.heap.size wr w1 := (Below.refl W.heap.size wr).grown hg1 (Nat.le_of_lt hsz) (fun i e => by cases e; exact Nat.le_refl _)
        have hsz1 : W.heap.size < w1.heap.size := Nat.lt_of_lt_of_le hsz hg1.size
        have HJ1 := Lib.hid (HJ0.out _ (hB1.alloc (Nat.le_of_lt hsz1) (.cells #[.int .i64 0, .int .i64 0, .string ⟨#[]⟩, .int .u64 (wdI 0#256 0), .int .u64 (wdI 0#256 1), .int .u64 (wdI 0#256 2), .int .u64 (wdI 0#256 3), .int .i64 0] 35)))
        clear hB1 hg1 HT2
        gi_wp2
        refine ⟨(by intro f h; cases h), ?_⟩
        gi_wp2
        first | go_end0 | refine bodyPost_ret (results_none rfl _ _ _) rfl ?_
        exact ⟨⟨_, rfl⟩, .inl (by rw [HX.out]; exact HJ1.out)⟩
      | some p =>
        have HT2 : Hid (Calls Tryz.prog 22 #[.func (.func 21) #[.pointer (some ⟨W.heap.size, 0, none⟩)] #[]] wr fun e w' => (e = .returned (.tuple #[.agg #[.int .i64 p.1.kind, .int .i64 (m : Int), .string p.1.txt, .int .u64 (wdI p.1.set 0), .int .u64 (wdI p.1.set 1), .int .u64 (wdI p.1.set 2), .int .u64 (wdI p.1.set 3), .int .i64 p.1.num], .bool true, .int .i64 0]) ∧ wr.grownBy w' (some W.heap.size)) ∧ Rdr w' W.heap.size t (m + p.2)) := Lib.hid (HT.out.mono fun e w' h => by
          obtain ⟨h1, h2⟩ := h
          rw [if_neg hend, hnw] at h2
          exact ⟨⟨h2.1, h1⟩, h2.2⟩)
        have HX := Lib.hid (HSt.out p hend hnw)
        obtain ⟨hp1, hp2⟩ := Hlen.out p hnw
        have HPre : Hid (enumF 0 ws ++ [(ws.length, (p.1, m))] <+: enumF 0 (lexAt t.data.toList 0).1) := Lib.hid (by
          rw [HX.out]
          show _ <+: enumF 0 ((ws ++ [(p.1, m)]) ++ _)
          rw [enumF_append (ws ++ [(p.1, m)]), enumF_snoc]
          exact List.prefix_append _ _)
        have HJ0 := Lib.hid (fun (w1 : World) (hB : Below W.heap.size wr w1) => HJ.out _ _ _ hJ.out hB)
        have HG0 := Lib.hid (fun (w1 : World) (hB : wr.grownBy w1 (some W.heap.size)) => hG.out.grown hB hB4)
        have HY0 := Lib.hid (fun (w1 : World) (hj : J (enumF 0 ws) w1) => HY.out _ _ w1 HPre.out hj)
        unfold encW wordV wordC at HY0
        dsimp only at HY0
        clear hm hdd hne0 hsk hL hR HT HE HBad HSt Hlen hJ hG hnw HY HJ
        gi_wp2_with (refine ⟨trivial, ?_⟩; gi_at_call 22; refine (callsIn_wide.2 HT2.out).mono ?_; rintro e w1 ⟨⟨rfl, hg1⟩, hr1⟩; obtain ⟨hsz1, HJ1, HG1, HR1⟩ : W.heap.size < w1.heap.size ∧ Hid (J (enumF 0 ws) (w1.alloc (.cells #[.int .i64 p.1.kind, .int .i64 (m : Int), .string p.1.txt, .int .u64 (wdI p.1.set 0), .int .u64 (wdI p.1.set 1), .int .u64 (wdI p.1.set 2), .int .u64 (wdI p.1.set 3), .int .i64 p.1.num] 35))) ∧ Hid (GlobD (w1.alloc (.cells #[.int .i64 p.1.kind, .int .i64 (m : Int), .string p.1.txt, .int .u64 (wdI p.1.set 0), .int .u64 (wdI p.1.set 1), .int .u64 (wdI p.1.set 2), .int .u64 (wdI p.1.set 3), .int .i64 p.1.num] 35))) ∧ Hid (Rdr (w1.alloc (.cells #[.int .i64 p.1.kind, .int .i64 (m : Int), .string p.1.txt, .int .u64 (wdI p.1.set 0), .int .u64 (wdI p.1.set 1), .int .u64 (wdI p.1.set 2), .int .u64 (wdI p.1.set 3), .int .i64 p.1.num] 35)) W.heap.size t (m + p.2)) := ⟨Nat.lt_of_lt_of_le hsz hg1.size, Lib.hid (HJ0.out _ (((Below.refl W.heap.size wr).grown hg1 (Nat.le_of_lt hsz) (fun i e => by cases e; exact Nat.le_refl _)).alloc (Nat.le_of_lt (Nat.lt_of_lt_of_le hsz hg1.size)) _)), Lib.hid ((HG0.out _ hg1).below (Nat.le_refl _) ((Below.refl _ w1).alloc (Nat.le_refl _) _)), Lib.hid (hr1.alloc _)⟩; clear hg1 hr1; obtain ⟨fn, tmps, assign, body, hy, hR⟩ := HY0.out _ HJ1.out)
        have HJs : Hid (enumF 0 (ws ++ [(p.1, m)]) = enumF 0 ws ++ [(ws.length, (p.1, m))]) := Lib.hid (enumF_snoc ws (p.1, m))
        refine hR.mono ?_
        rintro e W3 (⟨rfl, hJ3, hk3⟩ | ⟨rfl, hJx3⟩)
        · have hJ4 : Hid (J (enumF 0 (ws ++ [(p.1, m)])) W3) := Lib.hid (by rw [HJs.out]; exact hJ3)
          have hG4 := Lib.hid (hk3.glob HG1.out)
          have hR4 : Hid (Rdr W3 W.heap.size t (m + p.2)) := Lib.hid (hk3.blk (Nat.le_refl _) HR1.out)
          have hs4 : W.heap.size < W3.heap.size := by have := hk3.size; simp at this; omega
          clear hJ3 hk3 HJ1 HG1 HR1 HY0 HG0 HJ0 HT2 hR hy
          gi_wp2
          go_roundw
          case rel => exact ⟨m + p.2, ws ++ [(p.1, m)], by simp, hp2, by simp; omega, HX, hR4, hG4, hJ4, hs4⟩
          case measure => simp [intOf]; omega
        · clear HJ1 HG1 HR1 HY0 HG0 HJ0 HT2 hR hy
          gi_wp2
          first | go_end0 | refine bodyPost_ret (results_none rfl _ _ _) rfl ?_
          exact ⟨⟨_, rfl⟩, .inr ⟨_, HPre.out, hJx3⟩⟩
end Go.Proofs.YtdodkbpagbblmaaGreatDoor
end
section
namespace Go.Proofs.YtdodkbpagbblmaaGreatDoor
open Go Go.RowKit

/-- A list in memory of its own, one element more behind it. -/
def Sent (B : Nat) (e : TypeId) (size : Nat) (xs last : List Value) (n g c : Nat) (w : World) : Prop :=
  w.ownsRow B e size (.slice (some ⟨g, 0, none⟩) (n + 1) c) (n + 1) (xs ++ last) ∧ n + 1 ≤ c

theorem Sent.of {B size n : Nat} {e : TypeId} {xs last : List Value} {v : Value} {w : World} (h : w.ownsRow B e size v (n + 1) (xs ++ last)) :
    ∃ g c, v = .slice (some ⟨g, 0, none⟩) (n + 1) c ∧ Sent B e size xs last n g c w := by
  have h0 := h
  rcases h.2 with ⟨_, h1⟩ | ⟨g, cap, cur, rfl, _, _, h1, _⟩
  · omega
  · exact ⟨g, cap, rfl, h0, h1⟩

theorem Sent.below {B size n g c m : Nat} {e : TypeId} {xs last : List Value} {w w' : World} (h : Sent B e size xs last n g c w) (hB : Below m w w') (hm : w.heap.size ≤ m) : Sent B e size xs last n g c w' :=
  ⟨own_below h.1 hB hm, h.2⟩
theorem Sent.cells {B size n g c : Nat} {e : TypeId} {xs last : List Value} {w : World} (h : Sent B e size xs last n g c w) (j : Nat) (hj : j < (n + 1) * size) : w.cell? ⟨g, j, none⟩ = (xs ++ last)[j]? := h.1.cellAt j hj
theorem Sent.lt {B size n g c : Nat} {e : TypeId} {xs last : List Value} {w : World} (h : Sent B e size xs last n g c w) : g < w.heap.size := by
  rcases h.1.2 with ⟨h1, _⟩ | ⟨g', cap, cur, h1, _, h2, _⟩
  · cases h1
  · cases h1; exact (Array.getElem?_eq_some_iff.1 h2).1
theorem add_zero_off (b off j : Nat) : (⟨b, off, none⟩ : Addr).add j = ⟨b, off + j, none⟩ := by
  unfold Addr.add; split
  · next h => rw [h]; rfl
  · rfl
theorem le_alloc {n : Nat} {w : World} (h : n ≤ w.heap.size) (o : Obj) : n ≤ (w.alloc o).heap.size := by simp; omega
theorem cell_lt0 {w : World} {a : Addr} {v : Value} (h : w.cell? a = some v) : a.block < w.heap.size := by
  unfold World.cell? at h
  by_cases hb : a.block < w.heap.size
  · exact hb
  · simp [Array.getElem?_eq_none (Nat.le_of_not_lt hb)] at h

/-- The cells of words with their places. -/
def cellsX (l : List (Wd × Int)) : List Value := l.flatMap fun x => (wordC x.1 x.2).toList
theorem cellsX_cons (x : Wd × Int) (l : List (Wd × Int)) : cellsX (x :: l) = .int .i64 x.1.kind :: .int .i64 x.2 :: .string x.1.txt :: .int .u64 (wdI x.1.set 0) :: .int .u64 (wdI x.1.set 1) :: .int .u64 (wdI x.1.set 2) :: .int .u64 (wdI x.1.set 3) :: .int .i64 x.1.num :: cellsX l := rfl
theorem cellsX_length (l : List (Wd × Int)) : (cellsX l).length = l.length * 8 := by
  induction l with
  | nil => rfl
  | cons r rs ih => rw [cellsX_cons]; simp only [List.length_cons, ih]; omega
theorem cellsX_at (l : List (Wd × Int)) : ∀ (i : Nat) (x : Wd × Int), l[i]? = some x → ∀ (j : Nat), j < 8 → (cellsX l)[i * 8 + j]? = (wordC x.1 x.2).toList[j]? := by
  induction l with
  | nil => intro i x hx; simp at hx
  | cons r rs ih =>
    intro i x hx j hj
    have hc : cellsX (r :: rs) = (wordC r.1 r.2).toList ++ cellsX rs := rfl
    have hl : (wordC r.1 r.2).toList.length = 8 := rfl
    rw [hc]
    cases i with
    | zero =>
      simp at hx
      subst hx
      rw [List.getElem?_append_left (by omega), Nat.zero_mul, Nat.zero_add]
    | succ i =>
      have h := ih i x (by simpa using hx) j hj
      rw [List.getElem?_append_right (by omega), ← h, hl]
      congr 1
      omega
theorem one_X (l : List (Wd × Int)) : ∀ u ∈ cellsX l, u.oneCell' = true := by
  intro u hu
  unfold cellsX at hu
  obtain ⟨x, _, hx⟩ := List.mem_flatMap.1 hu
  simp [wordC] at hx
  rcases hx with rfl | rfl | rfl | rfl | rfl | rfl | rfl | rfl <;> rfl
theorem WordAt.ix {w : World} {b o : Nat} {x : Wd × Int} (h : WordAt w b o x) (j : Nat) (hj : j < 8) : w.cell? ⟨b, o + j, none⟩ = (wordC x.1 x.2).toList[j]? := by
  obtain ⟨h0, h1, h2, h3, h4, h5, h6, h7⟩ := h
  match j, hj with
  | 0, _ => exact h0
  | 1, _ => exact h1
  | 2, _ => exact h2
  | 3, _ => exact h3
  | 4, _ => exact h4
  | 5, _ => exact h5
  | 6, _ => exact h6
  | 7, _ => exact h7
theorem WordAt.of {w : World} {b o : Nat} {x : Wd × Int} (h : ∀ j, j < 8 → w.cell? ⟨b, o + j, none⟩ = (wordC x.1 x.2).toList[j]?) : WordAt w b o x :=
  ⟨h 0 (by omega), h 1 (by omega), h 2 (by omega), h 3 (by omega), h 4 (by omega), h 5 (by omega), h 6 (by omega), h 7 (by omega)⟩
theorem news_X {w : World} {ad : Addr} {l : List (Wd × Int)} (hd : RowW w (some ad) l) : ∀ j u, (cellsX l)[j]? = some u → w.cell? (ad.add j) = some u := by
  intro j u hu
  have hj : j < l.length * 8 := by
    have := (List.getElem?_eq_some_iff.1 hu).1
    rwa [cellsX_length] at this
  have hi : j / 8 < l.length := by omega
  obtain ⟨b, off, hab, hw⟩ := hd (j / 8) l[j / 8] (List.getElem?_eq_getElem hi)
  cases hab
  have k := cellsX_at l (j / 8) l[j / 8] (List.getElem?_eq_getElem hi) (j % 8) (by omega)
  have e : j / 8 * 8 + j % 8 = j := by omega
  have e2 : off + j / 8 * 8 + j % 8 = off + j := by omega
  rw [e] at k
  rw [add_zero_off, ← e2, hw.ix (j % 8) (by omega), ← k, hu]
theorem Sent.rowX {B n g c : Nat} {last : List Value} {l : List (Wd × Int)} {w : World} (h : Sent B 35 8 (cellsX l) last n g c w) (hn : n = l.length) : RowW w (some ⟨g, 0, none⟩) l := by
  intro i x hx
  have hi := (List.getElem?_eq_some_iff.1 hx).1
  refine ⟨g, 0, rfl, WordAt.of fun j hj => ?_⟩
  rw [Nat.zero_add, h.cells _ (by omega), List.getElem?_append_left (by rw [cellsX_length]; omega)]
  exact cellsX_at l i x hx j hj
theorem row_none_X {w : World} {l : List (Wd × Int)} (h : RowW w none l) : l = [] := by
  cases l with
  | nil => rfl
  | cons x r => obtain ⟨b, off, e, _⟩ := h 0 x rfl; cases e
theorem cell_eight_lit (w : World) (x : Wd × Int) (t : TypeId) : ∀ j v, (wordC x.1 x.2).toList[j]? = some v → (w.alloc (.cells (wordC x.1 x.2) t)).cell? ((⟨w.heap.size, 0, none⟩ : Addr).add j) = some v := by
  intro j v hj
  have hb := Blk.new w t (wordC x.1 x.2)
  rw [add_zero_off, Nat.zero_add, hb.cell j]
  rw [← hj]; simp
end Go.Proofs.YtdodkbpagbblmaaGreatDoor
end
section
namespace Go.Proofs.YtdodkbpagbblmaaGreatDoor
open Go Go.RowKit

/-- Words of at most 5000 bytes. -/
def Sm5 (l : List (Wd × Int)) : Prop := ∀ x ∈ l, x.1.txt.size ≤ 5000 ∧ -9223372036854775808 ≤ x.1.num ∧ x.1.num ≤ 9223372036854775807
theorem join_next (l : List (Wd × Int)) (m : Nat) (x : Wd × Int) (h : l.take (m + 1) = l.take m ++ [x]) (hm : m ≤ l.length) : joinW (l.take (m + 1)) = (if m = 0 then [] else joinW (l.take m) ++ [32]) ++ wordF x.1 := by
  rw [h]
  by_cases h0 : m = 0
  · subst h0
    rw [List.take_zero, if_pos rfl]
    simp [joinW, tailW]
  · rw [if_neg h0]
    refine joinW_snoc _ _ ?_
    intro e
    have := congrArg List.length e
    rw [List.length_take, List.length_nil] at this
    omega
theorem printR_all (l : List (Wd × Int)) (h : ∀ x ∈ l, mayB x.1 = true) : printR l = if 1048576 < (joinW l).length then (⟨#[]⟩, 3) else (bytesStr (joinW l), 0) := by
  unfold printR
  rw [if_pos (List.all_eq_true.2 h)]
theorem printR_bad (l : List (Wd × Int)) (x : Wd × Int) (hx : x ∈ l) (h : mayB x.1 = false) : printR l = (⟨#[]⟩, 2) := by
  unfold printR
  rw [if_neg]
  intro e
  have := List.all_eq_true.1 e _ hx
  rw [h] at this
  cases this

set_option maxRecDepth 100000 in
set_option maxHeartbeats 8000000 in
/-- The document's Print. -/
theorem rprint_any (a : Option Addr) (cap : Nat) (l : List (Wd × Int)) (n : Nat) (hn : l.length = n) (hn1 : n ≤ 300) (hx : Sm5 l) (w : World) (hG : GlobD w) (hl : RowW w a l) :
    Calls Tryz.prog 14 #[.slice a n cap] w fun e w' => e = .returned (.tuple #[.string (printR l).1, .int .i64 (printR l).2]) ∧ Below w.heap.size w w' := by
  have HD := Lib.hid hl
  have HG := Lib.hid hG
  have HX := Lib.hid hx
  have HN := Lib.hid hn
  clear hl hG hx hn
  go_enter Tryz.func14, Tryz.ntmps14
  go_wp2
  go_loopw [4, 5] (fun q i wr => ∃ (m : Nat) (t : ByteArray), q = .string t ∧ i = .int .i64 m ∧ m ≤ n ∧ t.size ≤ 23001 * m ∧ Hid (t = bytesStr (joinW (l.take m))) ∧ Hid (∀ x ∈ l.take m, mayB x.1 = true) ∧ Hid (Below w.heap.size w wr))
    (fun _ i _ => n - (intOf i).toNat)
  case atStart => exact ⟨0, ⟨#[]⟩, rfl, rfl, Nat.zero_le _, Nat.le_refl _, Lib.hid rfl, Lib.hid (by simp), Below.refl _ _⟩
  case round =>
    obtain ⟨m, t, rfl, rfl, hm, hts, hT, hA, hB⟩ := hrel
    have hszr := hB.out.size
    by_cases hlt : m < n
    · have HXm : Hid (l[m]? = some (l[m]'(by rw [HN.out]; exact hlt))) := Lib.hid (List.getElem?_eq_getElem _)
      obtain ⟨x, hx⟩ : ∃ x, l[m]'(by rw [HN.out]; exact hlt) = x := ⟨_, rfl⟩
      rw [hx] at HXm
      clear hx
      have hmem := List.mem_of_getElem? HXm.out
      have hxs := HX.out x hmem
      have HTk : Hid (l.take (m + 1) = l.take m ++ [x]) := Lib.hid (by rw [List.take_add_one, HXm.out]; rfl)
      have HJ := Lib.hid (join_next l m x HTk.out (by rw [HN.out]; exact hm))
      have HR : Hid (mayB x.1 = false → printR l = (⟨#[]⟩, 2)) := Lib.hid (printR_bad l x hmem)
      have HA2 : Hid (mayB x.1 = true → ∀ y ∈ l.take (m + 1), mayB y.1 = true) := by
        refine Lib.hid fun h => ?_
        rw [HTk.out]
        intro y hy
        rw [List.mem_append] at hy
        rcases hy with hy | hy
        · exact hA.out y hy
        · rw [List.mem_singleton] at hy; rw [hy]; exact h
      clear hmem hA
      obtain ⟨x, ax⟩ := x
      dsimp only at hxs HJ HR HA2
      obtain ⟨hx5, hxn0, hxn1⟩ := hxs
      have hwl := wordF_len x hxn0 hxn1
      obtain ⟨g, off, rfl, hW⟩ := HD.out m _ HXm.out
      have hW := hW.below hB.out hW.lt
      have HW := Lib.hid hW
      have bg := hW.lt
      obtain ⟨c0, c1, c2, c3, c4, c5, c6, c7⟩ := hW
      dsimp only at c0 c1 c2 c3 c4 c5 c6 c7
      have HC := Lib.hid (fun w' => rmay_any x ax (by omega) w')
      have HTd := Lib.hid (fun w' hG' => rtold_any x ax (by omega) hxn0 hxn1 w' hG')
      have n1 : (m : Int) < (n : Int) := by omega
      obtain ⟨T, hTT⟩ : ∃ T, T = bytesStr (wordF x) := ⟨_, rfl⟩
      have hTs : T.size ≤ 23000 := by rw [hTT, bytesStr_size]; omega
      rw [← hTT] at HTd
      have HTT := Lib.hid hTT
      clear hTT hwl
      unfold wordV wordC at HC HTd
      cases hmb : mayB x with
      | false =>
        rw [hmb] at HC
        have HR2 := Lib.hid (HR.out hmb)
        clear HA2 HTd HJ HTk hmb HR
        go_wp2_with fail
        refine (HC.out _).mono ?_
        rintro e w3 ⟨rfl, hB3⟩
        have HB3 := Lib.hid (hB.out.trans (hB3.mono hszr))
        clear hB3
        go_wp2
        go_ret2
        exact ⟨by rw [HR2.out]; rfl, HB3.out⟩
      | true =>
        rw [hmb] at HC
        have HA3 := Lib.hid (HA2.out hmb)
        clear HA2 hmb HR
        by_cases h0 : m = 0
        · have n0 : ¬ (0 : Int) < (m : Int) := by omega
          have HJ2 : Hid (t ++ T = bytesStr (joinW (l.take (m + 1)))) := Lib.hid (by
            rw [HJ.out, if_pos h0, HTT.out, hT.out, h0, List.take_zero, List.nil_append]
            show bytesStr [] ++ _ = _
            rw [bytesStr_append]; rfl)
          have HZ : Hid ((t ++ T).size ≤ 23001 * (m + 1)) := Lib.hid (by rw [ByteArray.size_append]; omega)
          clear HJ h0 hT HTk HTT
          go_wp2_with fail
          refine (HC.out _).mono ?_
          rintro e w3 ⟨rfl, hB3⟩
          have HB3 := Lib.hid (hB.out.trans (hB3.mono hszr))
          have hW3 := HW.out.below hB3 bg
          clear c0 c1 c2 c3 c4 c5 c6 c7
          have bg3 := hW3.lt
          obtain ⟨c0, c1, c2, c3, c4, c5, c6, c7⟩ := hW3
          dsimp only at c0 c1 c2 c3 c4 c5 c6 c7
          clear hB3 HC hB bg
          go_wp2_with fail
          refine (HTd.out _ (HG.out.below (Nat.le_refl _) HB3.out)).mono ?_
          rintro e w4 ⟨rfl, hB4⟩
          have HB4 := Lib.hid (HB3.out.trans (hB4.mono HB3.out.size))
          clear hB4 c0 c1 c2 c3 c4 c5 c6 c7
          go_wp2
          go_roundw
          case rel => exact ⟨m + 1, _, rfl, by go_num, by omega, HZ.out, HJ2, HA3, HB4⟩
          case measure => simp [intOf]; omega
        · have n0 : (0 : Int) < (m : Int) := by omega
          have HJ2 : Hid (t ++ ⟨#[32]⟩ ++ T = bytesStr (joinW (l.take (m + 1)))) := Lib.hid (by
            rw [HJ.out, if_neg h0, HTT.out, hT.out]
            show bytesStr _ ++ bytesStr [32] ++ _ = _
            rw [bytesStr_append, bytesStr_append])
          have HZ : Hid ((t ++ ⟨#[32]⟩ ++ T).size ≤ 23001 * (m + 1)) := Lib.hid (by
            rw [ByteArray.size_append, ByteArray.size_append]
            have : (⟨#[32]⟩ : ByteArray).size = 1 := rfl
            omega)
          clear HJ h0 hT HTk HTT
          go_wp2_with fail
          refine (HC.out _).mono ?_
          rintro e w3 ⟨rfl, hB3⟩
          have HB3 := Lib.hid (hB.out.trans (hB3.mono hszr))
          have hW3 := HW.out.below hB3 bg
          clear c0 c1 c2 c3 c4 c5 c6 c7
          have bg3 := hW3.lt
          obtain ⟨c0, c1, c2, c3, c4, c5, c6, c7⟩ := hW3
          dsimp only at c0 c1 c2 c3 c4 c5 c6 c7
          clear hB3 HC hB bg
          go_wp2_with fail
          refine (HTd.out _ (HG.out.below (Nat.le_refl _) HB3.out)).mono ?_
          rintro e w4 ⟨rfl, hB4⟩
          have HB4 := Lib.hid (HB3.out.trans (hB4.mono HB3.out.size))
          clear hB4 c0 c1 c2 c3 c4 c5 c6 c7
          go_wp2
          go_roundw
          case rel => exact ⟨m + 1, _, rfl, by go_num, by omega, HZ.out, HJ2, HA3, HB4⟩
          case measure => simp [intOf]; omega
    · obtain rfl : m = n := by omega
      have htk : l.take m = l := List.take_of_length_le (by rw [HN.out]; exact Nat.le_refl _)
      rw [htk] at hT hA
      have HP := Lib.hid (printR_all l hA.out)
      have hsz : t.size = (joinW l).length := by rw [hT.out, bytesStr_size]
      by_cases hbig : 1048576 < t.size
      · have n2 : (1048576 : Int) < (t.size : Int) := by omega
        have HP2 : Hid (printR l = (⟨#[]⟩, 3)) := Lib.hid (by rw [HP.out, if_pos (by omega)])
        clear HP hT hA htk hsz
        go_wp2
        go_ret2
        exact ⟨by rw [HP2.out]; rfl, hB.out⟩
      · have n2 : ¬ (1048576 : Int) < (t.size : Int) := by omega
        have HP2 : Hid (printR l = (t, 0)) := Lib.hid (by rw [HP.out, if_neg (by omega), ← hT.out])
        clear HP hT hA htk hsz
        go_wp2
        go_ret2
        exact ⟨by rw [HP2.out]; rfl, hB.out⟩

end Go.Proofs.YtdodkbpagbblmaaGreatDoor
end
