import Derived.Test.YtmlkeddiagmedaaLawDiff0
namespace Go.Proofs.Ytmlkeddiagmedaa
open Go.RowKit

def lawPost (w : World) (e : Ending) (w' : World) : Prop := e = .returned (.bool true) ∧ Below w.heap.size w w'

set_option maxHeartbeats 1000000 in
theorem lawDiff_long (a b : ByteArray) (w : World) (h : 3000 < a.size ∨ 3000 < b.size) :
    Calls Try.prog 6 #[.string a, .string b] w (lawPost w) := by
  by_cases h1 : 3000 < a.size
  all_goals
    go_enter Try.func6, Try.ntmps6
    go_wp2_with (go_at_call 9; refine (known_any _).mono ?_; rintro e w' ⟨rfl, hB⟩)
    all_goals first | (go_ret; exact ⟨rfl, hB⟩) | omega

set_option maxHeartbeats 2000000 in
theorem lawDiff_same (a : ByteArray) (w : World) (ha : a.size ≤ 3000) :
    Calls Try.prog 6 #[.string a, .string a] w (lawPost w) := by
  have HD := Lib.hid (diff_any a a w (by omega) (by omega))
  go_enter Try.func6, Try.ntmps6
  go_wp2_with fail
  refine HD.out.mono ?_
  rintro e w1 ⟨hB1, ⟨_, rfl⟩ | ⟨hne, _⟩⟩
  · have hs1 := hB1.size
    have HB := Lib.hid hB1
    clear hB1 HD
    go_wp2_with fail
    refine (known_any _).mono ?_
    rintro e w2 ⟨rfl, hB2⟩
    have hB3 := (HB.out.alloc hs1 _).trans (hB2.mono (by simp; omega))
    go_wp2
    go_ret
    exact ⟨rfl, hB3⟩
  · exact absurd rfl hne

set_option maxRecDepth 100000 in
set_option maxHeartbeats 2000000 in
theorem lawDiff_other (a b : ByteArray) (w : World) (ha : a.size ≤ 3000) (hb : b.size ≤ 3000) (hab : a ≠ b) :
    Calls Try.prog 6 #[.string a, .string b] w (lawPost w) := by
  have HD := Lib.hid (diff_any a b w (by omega) (by omega))
  have hq : (a.toList == b.toList) = false := by
    rw [beq_eq_false_iff_ne, ByteArray.toList_eq, ByteArray.toList_eq]
    exact fun h => hab (ByteArray.ext (Array.toList_inj.mp h))
  go_enter Try.func6, Try.ntmps6
  go_wp2_with fail
  refine HD.out.mono ?_
  rintro e w1 ⟨hB1, ⟨heq, _⟩ | ⟨_, k, m, hk, hm, rfl⟩⟩
  · exact absurd heq hab
  · have k1 : k ≤ a.size := by simpa using hk.1
    have k2 : k ≤ b.size := by simpa using hk.2.1
    have m1 := hm.1
    have m2 := hm.2.1
    rw [List.length_drop] at m1 m2
    have ea : a.data.toList.length = a.size := by simp
    have eb : b.data.toList.length = b.size := by simp
    rw [ea] at m1
    rw [eb] at m2
    have HK := Lib.hid hk
    have HM := Lib.hid hm
    clear hk hm ea eb HD
    have hD := Blk.new w1 42 #[.int .i64 k, .int .i64 ((a.size : Int) - m), .string (b.extract k (b.size - m))]
    have HA := Lib.hid (apply_diff a b k m (w1.heap.size + 1) 1 ((w1.alloc (.cells #[.int .i64 k, .int .i64 ((a.size : Int) - m), .string (b.extract k (b.size - m))] 42)).alloc (.cells #[.int .i64 k, .int .i64 ((a.size : Int) - m), .string (b.extract k (b.size - m))] 42)) ha hb HK.out HM.out
      (rowEd_one (x := diffEd a b k m) (by have := Blk.new (w1.alloc (.cells #[.int .i64 k, .int .i64 ((a.size : Int) - m), .string (b.extract k (b.size - m))] 42)) 42 #[.int .i64 k, .int .i64 ((a.size : Int) - m), .string (b.extract k (b.size - m))]; rw [World.size_alloc] at this; exact this)))
    have hs1 := hB1.size
    have HB1 := Lib.hid hB1
    have HD := Lib.hid hD
    clear hB1 hD
    go_wp2_with fail
    refine HA.out.mono ?_
    rintro e w2 ⟨rfl, hB2⟩
    have hs2 := hB2.size
    have hD2 := (HD.out.alloc (.cells #[.int .i64 k, .int .i64 ((a.size : Int) - m), .string (b.extract k (b.size - m))] 42)).below hB2 (by simp; omega)
    have hB3 : Below w.heap.size w w2 := ((HB1.out.alloc hs1 _).alloc (by simp; omega) _).trans (hB2.mono (by simp; omega))
    have HD2 := Lib.hid hD2
    have HB3 := Lib.hid hB3
    clear hB2 hD2 hB3 HA hs2 HB1 HD
    go_wp2_with fail
    go_loopw [9] (fun p wr => ∃ j : Nat, p = .int .i64 j ∧ j ≤ a.size ∧ j ≤ b.size ∧ Hid (∀ i, i < j → a.data.toList[i]? = b.data.toList[i]?) ∧ Hid (Blk wr w1.heap.size 42 #[.int .i64 k, .int .i64 ((a.size : Int) - m), .string (b.extract k (b.size - m))]) ∧ Hid (Below w.heap.size w wr))
      (fun p _ => a.size - (intOf p).toNat)
    case atStart => exact ⟨0, rfl, Nat.zero_le _, Nat.zero_le _, (fun i h => by omega), HD2, HB3⟩
    case round =>
      obtain ⟨j, rfl, hja, hjb, hE, hBk, hBw⟩ := hrel
      by_cases hst : j < a.size ∧ j < b.size ∧ a.data.toList[j]? = b.data.toList[j]?
      · obtain ⟨h1, h2, hc⟩ := hst
        rw [byteAt a j h1, byteAt b j h2, Option.some.injEq] at hc
        have hc1 : ((a[j].toNat : Int) == (b[j].toNat : Int)) = true := by rw [hc]; simp
        have hE2 : Hid (∀ i, i < j + 1 → a.data.toList[i]? = b.data.toList[i]?) := by
          intro i hi
          by_cases h : i < j
          · exact hE.out i h
          · obtain rfl : i = j := by omega
            rw [byteAt a i h1, byteAt b i h2, hc]
        clear hc
        have i1 : (j : Int) < (a.size : Int) := by omega
        have i2 : (j : Int) < (b.size : Int) := by omega
        go_wp2_with fail
        go_quiet (fail)
        go_wp2
        go_roundw
        case rel => exact ⟨j + 1, by go_num, by omega, by omega, hE2, hBk, below_drewN hBw.out _⟩
        case measure => simp [intOf]; omega
      · have hcb : IsCB a.data.toList b.data.toList j := by
          refine ⟨by simpa using hja, by simpa using hjb, hE.out, fun g1 g2 hc => hst ⟨by simpa using g1, by simpa using g2, hc⟩⟩
        obtain rfl : j = k := HK.out.unique hcb
        clear hE hja hjb hcb
        have hcase : (∃ h1 : j < a.size, ∃ h2 : j < b.size, ((a[j].toNat : Int) == (b[j].toNat : Int)) = false) ∨ (j < a.size ∧ decide (j < b.size) = false) ∨ decide (j < a.size) = false := by
          by_cases h1 : j < a.size
          · by_cases h2 : j < b.size
            · left
              refine ⟨h1, h2, ?_⟩
              have : a[j].toNat ≠ b[j].toNat := fun h => hst ⟨h1, h2, by rw [byteAt a j h1, byteAt b j h2, UInt8.toNat_inj.1 h]⟩
              rw [beq_eq_false_iff_ne]; omega
            · exact .inr (.inl ⟨h1, by simpa using h2⟩)
          · exact .inr (.inr (by simpa using h1))
        clear hst
        rcases hcase with ⟨h1, h2, hc1⟩ | ⟨h1, hc1⟩ | hc1
        all_goals
          go_wp2_with fail
          go_quiet (fail)
          clear hc1
          go_wp2_with fail
          go_loopw [10] (fun p wr => ∃ i : Nat, p = .int .i64 i ∧ i ≤ a.size - j ∧ i ≤ b.size - j ∧ Hid (∀ q, q < i → a.data.toList[a.size - 1 - q]? = b.data.toList[b.size - 1 - q]?) ∧ Hid (Blk wr w1.heap.size 42 #[.int .i64 j, .int .i64 ((a.size : Int) - m), .string (b.extract j (b.size - m))]) ∧ Hid (Below w.heap.size w wr))
            (fun p _ => a.size - (intOf p).toNat)
          case atStart => exact ⟨0, rfl, Nat.zero_le _, Nat.zero_le _, (fun i h => by omega), hBk, below_drewN hBw.out _⟩
          case round =>
            clear hBk hBw
            obtain ⟨i, rfl, hia, hib, hE, hBk, hBw⟩ := hrel
            have HQ : Hid (IntKind.i64.wrap ((a.size : Int) - j) = (a.size : Int) - j ∧ IntKind.i64.wrap ((b.size : Int) - j) = (b.size : Int) - j) := ⟨IntWalk.i64_in _ (by omega), IntWalk.i64_in _ (by omega)⟩
            by_cases hst : i < a.size - j ∧ i < b.size - j ∧ a.data.toList[a.size - 1 - i]? = b.data.toList[b.size - 1 - i]?
            · obtain ⟨h1, h2, hc⟩ := hst
              obtain ⟨x, hx⟩ : ∃ x : Nat, x = a.size - 1 - i := ⟨_, rfl⟩
              obtain ⟨y, hy⟩ : ∃ y : Nat, y = b.size - 1 - i := ⟨_, rfl⟩
              have hx1 : x < a.size := by omega
              have hy1 : y < b.size := by omega
              have hE2 : Hid (∀ q, q < i + 1 → a.data.toList[a.size - 1 - q]? = b.data.toList[b.size - 1 - q]?) := by
                intro q hq
                by_cases h : q < i
                · exact hE.out q h
                · obtain rfl : q = i := by omega
                  exact hc
              rw [← hx, ← hy, byteAt a x hx1, byteAt b y hy1, Option.some.injEq] at hc
              have hc1 : ((a[x].toNat : Int) == (b[y].toNat : Int)) = true := by rw [hc]; simp
              have g1 : (i : Int) < (a.size : Int) - j := by omega
              have g2 : (i : Int) < (b.size : Int) - j := by omega
              have HQ2 : Hid (IntKind.i64.wrap ((a.size : Int) - 1) = (a.size : Int) - 1 ∧ IntKind.i64.wrap ((a.size : Int) - 1 - i) = (x : Int) ∧ IntKind.i64.wrap ((b.size : Int) - 1) = (b.size : Int) - 1 ∧ IntKind.i64.wrap ((b.size : Int) - 1 - i) = (y : Int)) :=
                ⟨IntWalk.i64_in _ (by omega), by rw [IntWalk.i64_in _ (by omega)]; omega, IntWalk.i64_in _ (by omega), by rw [IntWalk.i64_in _ (by omega)]; omega⟩
              clear hx hy hc
              obtain ⟨q5, q6⟩ := HQ.out
              obtain ⟨q1, q2, q3, q4⟩ := HQ2.out
              go_wp2_with fail
              go_quiet (fail)
              clear q1 q2 q3 q4 q5 q6
              go_wp2
              go_roundw
              case rel => exact ⟨i + 1, by go_num, by omega, by omega, hE2, hBk, below_drewN hBw.out _⟩
              case measure => simp [intOf]; omega
            · obtain rfl : i = m := HM.out.unique (ce_of_loop a b j i k1 k2 hia hib hE.out hst)
              have hcase : (∃ x y : Nat, ∃ hx1 : x < a.size, ∃ hy1 : y < b.size, x = a.size - 1 - i ∧ y = b.size - 1 - i ∧ i < a.size - j ∧ i < b.size - j ∧ ((a[x].toNat : Int) == (b[y].toNat : Int)) = false) ∨ (i < a.size - j ∧ ¬ (i < b.size - j)) ∨ ¬ (i < a.size - j) := by
                by_cases h1 : i < a.size - j
                · by_cases h2 : i < b.size - j
                  · left
                    have hx1 : a.size - 1 - i < a.size := by omega
                    have hy1 : b.size - 1 - i < b.size := by omega
                    refine ⟨a.size - 1 - i, b.size - 1 - i, hx1, hy1, rfl, rfl, h1, h2, ?_⟩
                    have : a[a.size - 1 - i].toNat ≠ b[b.size - 1 - i].toNat := fun h => hst ⟨h1, h2, by rw [byteAt a _ hx1, byteAt b _ hy1, UInt8.toNat_inj.1 h]⟩
                    rw [beq_eq_false_iff_ne]; omega
                  · exact .inr (.inl ⟨h1, h2⟩)
                · exact .inr (.inr h1)
              have HCASE := Lib.hid hcase
              clear hst hE hcase
              obtain ⟨T, hT⟩ : ∃ T : Nat, T = b.size - i := ⟨_, rfl⟩
              have cD0 : wr.cell? ⟨w1.heap.size, 0, none⟩ = some (.int .i64 j) := hBk.out.cell 0
              have cD1 : wr.cell? ⟨w1.heap.size, 1, none⟩ = some (.int .i64 ((a.size : Int) - i)) := hBk.out.cell 1
              have cD2 : wr.cell? ⟨w1.heap.size, 2, none⟩ = some (.string (b.extract j T)) := by rw [hT]; exact hBk.out.cell 2
              have p1 : IntKind.i64.wrap ((a.size : Int) - i) = (a.size : Int) - i := IntWalk.i64_in _ (by omega)
              have p2 : IntKind.i64.wrap ((b.size : Int) - i) = (T : Int) := by rw [IntWalk.i64_in _ (by omega)]; omega
              have p3 : (j : Int) ≤ (T : Int) := by omega
              have p4 : (T : Int) ≤ (b.size : Int) := by omega
              have p5 : (0 : Int) ≤ (j : Int) := Int.natCast_nonneg _
              have hwr := hBw.out.size
              have HP := Lib.hid (And.intro p1 p2)
              clear hT p1 p2
              have hDlt : w1.heap.size < wr.heap.size := hBk.out.lt
              rcases HCASE.out with ⟨x, y, hx1, hy1, hx, hy, h1, h2, hc1⟩ | ⟨h1, h2⟩ | h1
              · have g1 : (i : Int) < (a.size : Int) - j := by omega
                have g2 : (i : Int) < (b.size : Int) - j := by omega
                have HQ2 : Hid (IntKind.i64.wrap ((a.size : Int) - 1) = (a.size : Int) - 1 ∧ IntKind.i64.wrap ((a.size : Int) - 1 - i) = (x : Int) ∧ IntKind.i64.wrap ((b.size : Int) - 1) = (b.size : Int) - 1 ∧ IntKind.i64.wrap ((b.size : Int) - 1 - i) = (y : Int)) :=
                  ⟨IntWalk.i64_in _ (by omega), by rw [IntWalk.i64_in _ (by omega)]; omega, IntWalk.i64_in _ (by omega), by rw [IntWalk.i64_in _ (by omega)]; omega⟩
                clear hx hy
                obtain ⟨q5, q6⟩ := HQ.out
                obtain ⟨q1, q2, q3, q4⟩ := HQ2.out
                go_wp2_with fail
                go_quiet (fail)
                clear q1 q2 q3 q4 q5 q6 hc1
                go_wp2_with fail
                obtain ⟨p1, p2⟩ := HP.out
                go_region_held3 (fun W => W.cell? ⟨w1.heap.size, 0, none⟩ = some (.int .i64 j) ∧ W.cell? ⟨w1.heap.size, 1, none⟩ = some (.int .i64 ((a.size : Int) - i)) ∧ W.cell? ⟨w1.heap.size, 2, none⟩ = some (.string (b.extract j T))) (go_keep)
                  (first | (go_at_call 9; refine (known_any _).mono ?_; rintro e w' ⟨rfl, hB⟩; have e0 := (hB.cell (p := ⟨w1.heap.size, 0, none⟩) hDlt).trans cD0; have e1 := (hB.cell (p := ⟨w1.heap.size, 1, none⟩) hDlt).trans cD1; have e2 := (hB.cell (p := ⟨w1.heap.size, 2, none⟩) hDlt).trans cD2; have HB := Lib.hid hB))
                clear p1 p2
                go_wp2
                go_ret
                exact ⟨rfl, hBw.out.trans ⟨HB.out.os, HB.out.tape, HB.out.output, HB.out.size, fun k hk => HB.out.block k (by show k < wr.heap.size; omega)⟩⟩
              · have g1 : (i : Int) < (a.size : Int) - j := by omega
                have g2 : decide ((i : Int) < (b.size : Int) - j) = false := by simp; omega
                obtain ⟨q5, q6⟩ := HQ.out
                go_wp2_with fail
                go_quiet (fail)
                clear q5 q6
                go_wp2_with fail
                obtain ⟨p1, p2⟩ := HP.out
                go_region_held3 (fun W => W.cell? ⟨w1.heap.size, 0, none⟩ = some (.int .i64 j) ∧ W.cell? ⟨w1.heap.size, 1, none⟩ = some (.int .i64 ((a.size : Int) - i)) ∧ W.cell? ⟨w1.heap.size, 2, none⟩ = some (.string (b.extract j T))) (go_keep)
                  (first | (go_at_call 9; refine (known_any _).mono ?_; rintro e w' ⟨rfl, hB⟩; have e0 := (hB.cell (p := ⟨w1.heap.size, 0, none⟩) hDlt).trans cD0; have e1 := (hB.cell (p := ⟨w1.heap.size, 1, none⟩) hDlt).trans cD1; have e2 := (hB.cell (p := ⟨w1.heap.size, 2, none⟩) hDlt).trans cD2; have HB := Lib.hid hB))
                clear p1 p2
                go_wp2
                go_ret
                exact ⟨rfl, hBw.out.trans ⟨HB.out.os, HB.out.tape, HB.out.output, HB.out.size, fun k hk => HB.out.block k (by show k < wr.heap.size; omega)⟩⟩
              · have g2 : decide ((i : Int) < (a.size : Int) - j) = false := by simp; omega
                obtain ⟨q5, q6⟩ := HQ.out
                go_wp2_with fail
                go_quiet (fail)
                clear q5 q6
                go_wp2_with fail
                obtain ⟨p1, p2⟩ := HP.out
                go_region_held3 (fun W => W.cell? ⟨w1.heap.size, 0, none⟩ = some (.int .i64 j) ∧ W.cell? ⟨w1.heap.size, 1, none⟩ = some (.int .i64 ((a.size : Int) - i)) ∧ W.cell? ⟨w1.heap.size, 2, none⟩ = some (.string (b.extract j T))) (go_keep)
                  (first | (go_at_call 9; refine (known_any _).mono ?_; rintro e w' ⟨rfl, hB⟩; have e0 := (hB.cell (p := ⟨w1.heap.size, 0, none⟩) hDlt).trans cD0; have e1 := (hB.cell (p := ⟨w1.heap.size, 1, none⟩) hDlt).trans cD1; have e2 := (hB.cell (p := ⟨w1.heap.size, 2, none⟩) hDlt).trans cD2; have HB := Lib.hid hB))
                clear p1 p2
                go_wp2
                go_ret
                exact ⟨rfl, hBw.out.trans ⟨HB.out.os, HB.out.tape, HB.out.output, HB.out.size, fun k hk => HB.out.block k (by show k < wr.heap.size; omega)⟩⟩

end Go.Proofs.Ytmlkeddiagmedaa
