import Derived.Test.YtmlkeddiagmedaaPos2
import Derived.Test.YtmlkeddiagmedaaKnown
namespace Go.Proofs.Ytmlkeddiagmedaa
open Go.RowKit

def lawPost2 (w : World) (e : Ending) (w' : World) : Prop := e = .returned (.bool true) ∧ Below w.heap.size w w'

set_option maxHeartbeats 1000000 in
theorem lawPlaces_long (s : ByteArray) (a l c : Int) (w : World) (h : 5000 < s.size) :
    Calls Try.prog 3 #[.string s, .int .i64 a, .agg #[.int .i64 l, .int .i64 c]] w (lawPost2 w) := by
  go_enter Try.func3, Try.ntmps3
  go_wp2_with fail
  refine (known_any _).mono ?_
  rintro e w' ⟨rfl, hB⟩
  go_wp2
  go_ret
  exact ⟨rfl, ((Below.refl _ _).alloc (Nat.le_refl _) _).trans (hB.mono (by simp))⟩

/-- Place at the position of a place. -/
theorem place_back (s : ByteArray) (i : Nat) (hs : s.size ≤ 5000) (hi : i ≤ s.size) (w : World) :
    Calls Try.prog 11 #[.string s, .agg #[.int .i64 (lineOf s i), .int .i64 (colOf s i)]] w fun e w' => e = .returned (.tuple #[.int .i64 i, .int .i64 0]) ∧ Below w.heap.size w w' := by
  refine (place_any s _ _ w (by omega)).mono ?_
  rintro e w' ⟨hB, ⟨p, hp, rfl⟩ | ⟨hno, rfl⟩⟩
  · rw [place_at s i hi p hp]; exact ⟨rfl, hB⟩
  · exact absurd ⟨rfl, rfl⟩ (place_no s _ _ hno i hi)

set_option maxRecDepth 100000 in
set_option maxHeartbeats 2000000 in
theorem lawPlaces_any (s : ByteArray) (a l c : Int) (w : World) (hs : s.size ≤ 5000) :
    Calls Try.prog 3 #[.string s, .int .i64 a, .agg #[.int .i64 l, .int .i64 c]] w (lawPost2 w) := by
  have hcase : a < 0 ∨ (s.size : Int) < a ∨ ∃ i : Nat, a = i ∧ i ≤ s.size := by
    by_cases h : a < 0
    · exact .inl h
    · by_cases h2 : (s.size : Int) < a
      · exact .inr (.inl h2)
      · exact .inr (.inr ⟨a.toNat, by omega, by omega⟩)
  have HP := Lib.hid (fun W => place_any s l c W (by omega))
  rcases hcase with h | h | ⟨i, rfl, hi⟩
  focus
    have HA := Lib.hid (fun W => at_bad s a W (by omega) (.inl h))
    go_enter Try.func3, Try.ntmps3
    go_wp2_with fail
    refine (HA.out _).mono ?_
    rintro e w1 ⟨rfl, hB1⟩
    have bP := (Blk.new w 23 #[.int .i64 l, .int .i64 c]).below hB1 (by simp)
    have hlt := bP.lt
    have k0 : ∀ o, (w1.alloc o).cell? ⟨w.heap.size, 0, none⟩ = some (.int .i64 l) := fun o => (bP.alloc o).cell 0
    have k1 : ∀ o, (w1.alloc o).cell? ⟨w.heap.size, 1, none⟩ = some (.int .i64 c) := fun o => (bP.alloc o).cell 1
    have HB2 : Hid (Below w.heap.size w w1) := ((Below.refl _ _).alloc (Nat.le_refl _) _).trans (hB1.mono (by simp))
    have BP := Lib.hid bP
    clear hB1 bP
    go_wp2_with fail
    refine (HP.out _).mono ?_
    rintro e w5 ⟨hB5, hr⟩
    have bP5 := (BP.out.alloc _).below hB5 (by simp; omega)
    have hB6 : Below w.heap.size w w5 := (HB2.out.alloc HB2.out.size _).trans (hB5.mono (by have := HB2.out.size; simp; omega))
    clear k0 k1 hB5 HB2 BP HA
  rotate_left
  focus
    have HA := Lib.hid (fun W => at_bad s a W (by omega) (.inr h))
    go_enter Try.func3, Try.ntmps3
    go_wp2_with fail
    refine (HA.out _).mono ?_
    rintro e w1 ⟨rfl, hB1⟩
    have bP := (Blk.new w 23 #[.int .i64 l, .int .i64 c]).below hB1 (by simp)
    have hlt := bP.lt
    have k0 : ∀ o, (w1.alloc o).cell? ⟨w.heap.size, 0, none⟩ = some (.int .i64 l) := fun o => (bP.alloc o).cell 0
    have k1 : ∀ o, (w1.alloc o).cell? ⟨w.heap.size, 1, none⟩ = some (.int .i64 c) := fun o => (bP.alloc o).cell 1
    have HB2 : Hid (Below w.heap.size w w1) := ((Below.refl _ _).alloc (Nat.le_refl _) _).trans (hB1.mono (by simp))
    have BP := Lib.hid bP
    clear hB1 bP
    go_wp2_with fail
    refine (HP.out _).mono ?_
    rintro e w5 ⟨hB5, hr⟩
    have bP5 := (BP.out.alloc _).below hB5 (by simp; omega)
    have hB6 : Below w.heap.size w w5 := (HB2.out.alloc HB2.out.size _).trans (hB5.mono (by have := HB2.out.size; simp; omega))
    clear k0 k1 hB5 HB2 BP HA
  rotate_left
  focus
    have HA := Lib.hid (fun W => at_ok s i W (by omega) hi)
    have HBK := Lib.hid (fun W => place_back s i hs hi W)
    obtain ⟨L, hL⟩ : ∃ L, L = lineOf s i := ⟨_, rfl⟩
    obtain ⟨C, hC⟩ : ∃ C, C = colOf s i := ⟨_, rfl⟩
    rw [← hL, ← hC] at HA HBK
    have HL := Lib.hid hL
    have HC := Lib.hid hC
    clear hL hC
    have i1 : (i : Int) ≤ (s.size : Int) := by omega
    go_enter Try.func3, Try.ntmps3
    go_wp2_with fail
    refine (HA.out _).mono ?_
    rintro e w1 ⟨rfl, hB1⟩
    have bP := (Blk.new w 23 #[.int .i64 l, .int .i64 c]).below hB1 (by simp)
    have hlt := bP.lt
    have HB2 : Hid (Below w.heap.size w w1) := ((Below.refl _ _).alloc (Nat.le_refl _) _).trans (hB1.mono (by simp))
    have BP := Lib.hid bP
    clear hB1 bP HA
    go_wp2_with fail
    go_loop [9, 10, 11] (fun x y z => ∃ j : Nat, z = .int .i64 j ∧ j ≤ i ∧ x = .int .i64 (lineOf s j) ∧ y = .int .i64 (colOf s j)) (fun _ _ z => i - (intOf z).toNat)
    case atStart => exact ⟨0, rfl, Nat.zero_le _, by rw [(pos_zero s).1], by rw [(pos_zero s).2]⟩
    case round =>
      obtain ⟨j, rfl, hj, rfl, rfl⟩ := hrel
      obtain ⟨d1, d2, d3, d4⟩ := pos_bd s j (by omega)
      by_cases hlt2 : j < i
      · obtain ⟨p1, p2⟩ := pos_step s j (by omega)
        obtain ⟨Lj, hLj⟩ : ∃ Lj, Lj = lineOf s j := ⟨_, rfl⟩
        obtain ⟨Cj, hCj⟩ : ∃ Cj, Cj = colOf s j := ⟨_, rfl⟩
        rw [← hLj] at p1 d1 d2 ⊢
        rw [← hCj] at p2 d3 d4 ⊢
        clear hLj hCj
        have hj2 : j < s.size := by omega
        by_cases hc : s[j] = 10
        · have hc1 : ((s[j].toNat : Int) == 10) = true := by rw [hc]; rfl
          rw [if_pos hc] at p1 p2
          have P1 := Lib.hid p1
          have P2 := Lib.hid p2
          clear p1 p2 hc
          go_wp2
          go_round
          case rel => exact ⟨j + 1, by go_num, by omega, by rw [P1.out], by rw [P2.out]⟩
          case measure => simp [intOf]; omega
        · have hc1 : ((s[j].toNat : Int) == 10) = false := by
            rw [beq_eq_false_iff_ne]
            intro h'
            apply hc
            apply UInt8.toNat_inj.1
            show s[j].toNat = 10
            omega
          rw [if_neg hc] at p1 p2
          have P1 := Lib.hid p1
          have P2 := Lib.hid p2
          clear p1 p2 hc
          go_wp2
          go_round
          case rel => exact ⟨j + 1, by go_num, by omega, by rw [P1.out], by rw [P2.out]⟩
          case measure => simp [intOf]; omega
      · obtain rfl : j = i := by omega
        rw [← HL.out, ← HC.out]
        go_wp2_with fail
        refine (HBK.out _).mono ?_
        rintro e w3 ⟨rfl, hB3⟩
        have bG := (Blk.new w1 23 #[.int .i64 L, .int .i64 C]).below hB3 (by simp)
        have bP3 := (BP.out.alloc _).below hB3 (by simp; omega)
        have HB4 : Hid (Below w.heap.size w w3) := (HB2.out.alloc HB2.out.size _).trans (hB3.mono (by have := HB2.out.size; simp; omega))
        have g0 : w3.cell? ⟨w1.heap.size, 0, none⟩ = some (.int .i64 L) := bG.cell 0
        have g1 : w3.cell? ⟨w1.heap.size, 1, none⟩ = some (.int .i64 C) := bG.cell 1
        have k0 : w3.cell? ⟨w.heap.size, 0, none⟩ = some (.int .i64 l) := bP3.cell 0
        have k1 : w3.cell? ⟨w.heap.size, 1, none⟩ = some (.int .i64 c) := bP3.cell 1
        have BP3 := Lib.hid bP3
        clear hB3 bG bP3 HB2 BP HBK
        go_wp2_with fail
        refine (HP.out _).mono ?_
        rintro e w5 ⟨hB5, hr⟩
        have bP5 := BP3.out.below hB5 BP3.out.lt
        have hB6 : Below w.heap.size w w5 := HB4.out.trans (hB5.mono HB4.out.size)
        clear k0 k1 hB5 HB4 BP3 g0 g1
        rcases hr with ⟨p, hp, rfl⟩ | ⟨hno, rfl⟩
        · obtain ⟨q1, q2, q3, q4⟩ := at_place s l c p hp
          obtain ⟨m, rfl⟩ := Int.eq_ofNat_of_zero_le q1
          have HM := Lib.hid (fun W => at_ok s m W (by omega) (by omega))
          rw [Int.toNat_natCast] at q3 q4
          rw [q3, q4] at HM
          have hl5 := bP5.lt
          have BP5 := Lib.hid bP5
          have HB6 := Lib.hid hB6
          have hs5 := hB6.size
          clear bP5 hB6 hp q3 q4 HP
          go_wp2_with fail
          refine (HM.out _).mono ?_
          rintro e w6 ⟨rfl, hB7⟩
          have bP7 := BP5.out.below hB7 hl5
          have k0 : ∀ o, (w6.alloc o).cell? ⟨w.heap.size, 0, none⟩ = some (.int .i64 l) := fun o => (bP7.alloc o).cell 0
          have k1 : ∀ o, (w6.alloc o).cell? ⟨w.heap.size, 1, none⟩ = some (.int .i64 c) := fun o => (bP7.alloc o).cell 1
          have HB8 : Hid (Below w.heap.size w w6) := HB6.out.trans (hB7.mono hs5)
          have hs6 := HB8.out.size
          clear hB7 bP7 BP5 HB6 HM
          go_wp2_with fail
          refine (known_any _).mono ?_
          rintro e w7 ⟨rfl, hB9⟩
          have HB10 : Hid (Below w.heap.size w w7) := (HB8.out.alloc hs6 _).trans (hB9.mono (by simp; omega))
          clear hB9 k0 k1
          go_wp2
          go_ret
          exact ⟨rfl, HB10.out⟩
        · have HNO := Lib.hid (fun j hj => place_no s l c hno j hj)
          have BP5 := Lib.hid bP5
          have HB6 := Lib.hid hB6
          clear bP5 hB6 hno HP
          go_wp2_with fail
          go_loopw [16] (fun p wr => ∃ j : Nat, p = .int .i64 j ∧ j ≤ s.size + 1 ∧ Hid (Blk wr w.heap.size 23 #[.int .i64 l, .int .i64 c]) ∧ Hid (Below w.heap.size w wr)) (fun p _ => s.size + 1 - (intOf p).toNat)
          case atStart => exact ⟨0, rfl, Nat.zero_le _, BP5, HB6⟩
          case round =>
            obtain ⟨j, rfl, hj, hBk, hBw⟩ := hrel
            by_cases hjs : j ≤ s.size
            · have HM := Lib.hid (fun W => at_ok s j W (by omega) hjs)
              have hne := HNO.out j hjs
              obtain ⟨Lj, hLj⟩ : ∃ Lj, Lj = lineOf s j := ⟨_, rfl⟩
              obtain ⟨Cj, hCj⟩ : ∃ Cj, Cj = colOf s j := ⟨_, rfl⟩
              rw [← hLj, ← hCj] at HM hne
              have hbl := hBk.out.lt
              have hbs := hBw.out.size
              clear hLj hCj
              go_wp2_with fail
              refine (HM.out _).mono ?_
              rintro e w6 ⟨rfl, hB7⟩
              have bP7 := hBk.out.below hB7 hbl
              have k0 : ∀ o, (w6.alloc o).cell? ⟨w.heap.size, 0, none⟩ = some (.int .i64 l) := fun o => (bP7.alloc o).cell 0
              have k1 : ∀ o, (w6.alloc o).cell? ⟨w.heap.size, 1, none⟩ = some (.int .i64 c) := fun o => (bP7.alloc o).cell 1
              have HB8 : Hid (Below w.heap.size w w6) := hBw.out.trans (hB7.mono hbs)
              have hs6 := HB8.out.size
              have BP8 := Lib.hid (bP7.alloc (.cells #[.int .i64 Lj, .int .i64 Cj] 23))
              clear hB7 bP7 HM hBk hBw
              have HB9 := Lib.hid (HB8.out.alloc hs6 (.cells #[.int .i64 Lj, .int .i64 Cj] 23))
              by_cases hl : Lj = l
              · have h1 : (Lj == l) = true := by simpa using hl
                have h2 : (Cj == c) = false := by rw [beq_eq_false_iff_ne]; exact fun h => hne ⟨hl, h⟩
                clear hne hl
                go_wp2
                go_roundw
                case rel => exact ⟨j + 1, by go_num, by omega, BP8, HB9⟩
                case measure => simp [intOf]; omega
              · have h1 : (Lj == l) = false := by rw [beq_eq_false_iff_ne]; exact hl
                clear hne hl
                go_wp2
                go_roundw
                case rel => exact ⟨j + 1, by go_num, by omega, BP8, HB9⟩
                case measure => simp [intOf]; omega
            · go_wp2_with fail
              refine (known_any _).mono ?_
              rintro e w7 ⟨rfl, hB9⟩
              have HB10 : Hid (Below w.heap.size w w7) := hBw.out.trans (hB9.mono hBw.out.size)
              clear hB9
              go_wp2
              go_ret
              exact ⟨rfl, HB10.out⟩
  rotate_left
  all_goals
    rcases hr with ⟨p, hp, rfl⟩ | ⟨hno, rfl⟩
    · obtain ⟨q1, q2, q3, q4⟩ := at_place s l c p hp
      obtain ⟨m, rfl⟩ := Int.eq_ofNat_of_zero_le q1
      have HM := Lib.hid (fun W => at_ok s m W (by omega) (by omega))
      rw [Int.toNat_natCast] at q3 q4
      rw [q3, q4] at HM
      have hl5 := bP5.lt
      have BP5 := Lib.hid bP5
      have HB6 := Lib.hid hB6
      have hs5 := hB6.size
      clear bP5 hB6 hp q3 q4 HP
      go_wp2_with fail
      refine (HM.out _).mono ?_
      rintro e w6 ⟨rfl, hB7⟩
      have bP7 := BP5.out.below hB7 hl5
      have k0 : ∀ o, (w6.alloc o).cell? ⟨w.heap.size, 0, none⟩ = some (.int .i64 l) := fun o => (bP7.alloc o).cell 0
      have k1 : ∀ o, (w6.alloc o).cell? ⟨w.heap.size, 1, none⟩ = some (.int .i64 c) := fun o => (bP7.alloc o).cell 1
      have HB8 : Hid (Below w.heap.size w w6) := HB6.out.trans (hB7.mono hs5)
      have hs6 := HB8.out.size
      clear hB7 bP7 BP5 HB6 HM
      go_wp2_with fail
      refine (known_any _).mono ?_
      rintro e w7 ⟨rfl, hB9⟩
      have HB10 : Hid (Below w.heap.size w w7) := (HB8.out.alloc hs6 _).trans (hB9.mono (by simp; omega))
      clear hB9 k0 k1
      go_wp2
      go_ret
      exact ⟨rfl, HB10.out⟩
    · have HNO := Lib.hid (fun j hj => place_no s l c hno j hj)
      have BP5 := Lib.hid bP5
      have HB6 := Lib.hid hB6
      clear bP5 hB6 hno HP
      go_wp2_with fail
      go_loopw [16] (fun p wr => ∃ j : Nat, p = .int .i64 j ∧ j ≤ s.size + 1 ∧ Hid (Blk wr w.heap.size 23 #[.int .i64 l, .int .i64 c]) ∧ Hid (Below w.heap.size w wr)) (fun p _ => s.size + 1 - (intOf p).toNat)
      case atStart => exact ⟨0, rfl, Nat.zero_le _, BP5, HB6⟩
      case round =>
        obtain ⟨j, rfl, hj, hBk, hBw⟩ := hrel
        by_cases hjs : j ≤ s.size
        · have HM := Lib.hid (fun W => at_ok s j W (by omega) hjs)
          have hne := HNO.out j hjs
          obtain ⟨Lj, hLj⟩ : ∃ Lj, Lj = lineOf s j := ⟨_, rfl⟩
          obtain ⟨Cj, hCj⟩ : ∃ Cj, Cj = colOf s j := ⟨_, rfl⟩
          rw [← hLj, ← hCj] at HM hne
          have hbl := hBk.out.lt
          have hbs := hBw.out.size
          clear hLj hCj
          go_wp2_with fail
          refine (HM.out _).mono ?_
          rintro e w6 ⟨rfl, hB7⟩
          have bP7 := hBk.out.below hB7 hbl
          have k0 : ∀ o, (w6.alloc o).cell? ⟨w.heap.size, 0, none⟩ = some (.int .i64 l) := fun o => (bP7.alloc o).cell 0
          have k1 : ∀ o, (w6.alloc o).cell? ⟨w.heap.size, 1, none⟩ = some (.int .i64 c) := fun o => (bP7.alloc o).cell 1
          have HB8 : Hid (Below w.heap.size w w6) := hBw.out.trans (hB7.mono hbs)
          have hs6 := HB8.out.size
          have BP8 := Lib.hid (bP7.alloc (.cells #[.int .i64 Lj, .int .i64 Cj] 23))
          clear hB7 bP7 HM hBk hBw
          have HB9 := Lib.hid (HB8.out.alloc hs6 (.cells #[.int .i64 Lj, .int .i64 Cj] 23))
          by_cases hl : Lj = l
          · have h1 : (Lj == l) = true := by simpa using hl
            have h2 : (Cj == c) = false := by rw [beq_eq_false_iff_ne]; exact fun h => hne ⟨hl, h⟩
            clear hne hl
            go_wp2
            go_roundw
            case rel => exact ⟨j + 1, by go_num, by omega, BP8, HB9⟩
            case measure => simp [intOf]; omega
          · have h1 : (Lj == l) = false := by rw [beq_eq_false_iff_ne]; exact hl
            clear hne hl
            go_wp2
            go_roundw
            case rel => exact ⟨j + 1, by go_num, by omega, BP8, HB9⟩
            case measure => simp [intOf]; omega
        · go_wp2_with fail
          refine (known_any _).mono ?_
          rintro e w7 ⟨rfl, hB9⟩
          have HB10 : Hid (Below w.heap.size w w7) := hBw.out.trans (hB9.mono hBw.out.size)
          clear hB9
          go_wp2
          go_ret
          exact ⟨rfl, HB10.out⟩

end Go.Proofs.Ytmlkeddiagmedaa
