import Derived.Test.YtdodkbpagbblmaaDoorR2
namespace Go.Proofs.YtdodkbpagbblmaaDoor
open Go Go.RowKit

/-- The item at a text's beginning: its range, and how long it is. -/
def itemB (l : List UInt8) : (Nat × Nat) × Nat :=
  if (byteB l).2 = 0 ∨ Lib.hasPrefix (l.drop (byteB l).2) [45] = false then (((byteB l).1, (byteB l).1), (byteB l).2)
  else if (byteB (l.drop ((byteB l).2 + 1))).2 = 0 ∨ (byteB (l.drop ((byteB l).2 + 1))).1 < (byteB l).1 then ((0, 0), 0)
  else (((byteB l).1, (byteB (l.drop ((byteB l).2 + 1))).1), (byteB l).2 + 1 + (byteB (l.drop ((byteB l).2 + 1))).2)

theorem extract_drop (s : ByteArray) (c : Nat) : (s.extract c s.size).data.toList = s.data.toList.drop c := by
  rw [ByteArray.data_extract, Array.toList_extract, List.extract_eq_take_drop]
  rw [List.take_of_length_le]
  simp

theorem hasPrefix_room (l : List UInt8) (n : Nat) (h : Lib.hasPrefix (l.drop n) [45] = true) : n + 1 ≤ l.length := by
  by_cases hn : n < l.length
  · omega
  · rw [List.drop_eq_nil_of_le (by omega)] at h
    cases h

theorem Blk.set2 {W : World} {B t : Nat} {a b : Value} (h : Blk W B t #[a, b]) (a' b' : Value) :
    Blk ((W.setCell ⟨B, 0, none⟩ a').setCell ⟨B, 1, none⟩ b') B t #[a', b'] := by
  simpa using (h.set 0 a').set 1 b'
theorem below_set2 {n B : Nat} {w W : World} (h : Below n w W) (hn : n ≤ B) (a' b' : Value) :
    Below n w ((W.setCell ⟨B, 0, none⟩ a').setCell ⟨B, 1, none⟩ b') :=
  (h.setCell (p := ⟨B, 0, none⟩) hn _).setCell (p := ⟨B, 1, none⟩) hn _

set_option maxRecDepth 100000 in
set_option maxHeartbeats 4000000 in
theorem readItem_any (s : ByteArray) (hs : s.size ≤ 140737488351232) (w : World) (hG : Glob w) :
    Calls Tryd.prog 59 #[.string s] w fun e w' => e = .returned (.tuple #[.agg #[.int .u8 (itemB s.data.toList).1.1, .int .u8 (itemB s.data.toList).1.2], .int .i64 (itemB s.data.toList).2]) ∧ Below w.heap.size w w' := by
  have HG := Lib.hid hG
  clear hG
  have hbl := byteB_lt s.data.toList
  have hsz : s.data.toList.length = s.size := (Lib.size_eq s).symm
  obtain ⟨q, hq⟩ : ∃ q, q = byteB s.data.toList := ⟨_, rfl⟩
  have HR := Lib.hid (readByte_any s hs (w.alloc (.cells #[.int .u8 0, .int .u8 0] 88)) (HG.out.below (Nat.le_refl _) ((Below.refl _ w).alloc (Nat.le_refl _) _)))
  have HI : Hid (itemB s.data.toList = if q.2 = 0 ∨ Lib.hasPrefix (s.data.toList.drop q.2) [45] = false then ((q.1, q.1), q.2)
      else if (byteB (s.data.toList.drop (q.2 + 1))).2 = 0 ∨ (byteB (s.data.toList.drop (q.2 + 1))).1 < q.1 then ((0, 0), 0)
      else ((q.1, (byteB (s.data.toList.drop (q.2 + 1))).1), q.2 + 1 + (byteB (s.data.toList.drop (q.2 + 1))).2)) := by
    rw [hq]; rfl
  rw [← hq] at HR hbl
  obtain ⟨b, n⟩ := q
  dsimp only at *
  have hn : n ≤ s.size := by omega
  have hb256 := hbl.1
  clear hq hbl
  obtain ⟨hp, hhp⟩ : ∃ hp, hp = Lib.hasPrefix (s.data.toList.drop n) [45] := ⟨_, rfl⟩
  rw [← hhp] at HI
  have HPx : ∀ w', Hid (Calls Tryd.prog 36 #[.string (s.extract n s.size), .string ⟨#[45]⟩] w' fun e w'' => e = .returned (.bool hp) ∧ w' = w'') := by
    intro w'
    refine Lib.hid ((Tryd.strings_HasPrefix _ _ _).mono ?_)
    rintro e w'' ⟨rfl, rfl⟩
    rw [extract_drop, hhp]
    exact ⟨rfl, rfl⟩
  have HH := Lib.hid hhp
  have HSZ := Lib.hid hsz
  clear hhp hsz
  by_cases c1 : n = 0
  · have hE : itemB s.data.toList = ((b, b), n) := by rw [HI.out, if_pos (.inl c1)]
    rw [hE]
    subst c1
    clear HI hE HPx HH
    go_enter Tryd.func59, Tryd.ntmps59
    go_wp2_with fail
    refine HR.out.mono ?_
    rintro e w1 ⟨rfl, hB⟩
    have hA1 := Lib.hid ((Blk.new w 88 #[.int .u8 0, .int .u8 0]).below hB (by simp))
    have HB : Hid (Below w.heap.size w w1) := Lib.hid (((Below.refl _ w).alloc (Nat.le_refl _) _).trans (hB.mono (by simp)))
    have y0 : w1.cell? ⟨w.heap.size, 0, none⟩ = some (.int .u8 0) := hA1.out.cell 0
    have y1 : w1.cell? ⟨w.heap.size, 1, none⟩ = some (.int .u8 0) := hA1.out.cell 1
    have fy : ∀ i, w1.frozen? ⟨w.heap.size, i, none⟩ = false := hA1.out.frozen
    clear hB HR
    go_wp2
    have hb2 := Blk.set2 hA1.out (.int .u8 ((b : Nat) : Int)) (.int .u8 ((b : Nat) : Int))
    have d0 := hb2.cell 0
    have d1 := hb2.cell 1
    refine bodyPost_ret (v := .tuple #[.agg #[.int .u8 ((b : Nat) : Int), .int .u8 ((b : Nat) : Int)], .int .i64 0]) (by simp [results, Tryd.results59, go_sem, d0, d1]) rfl ⟨by first | rfl | (simp; done) | (rw [HEE.out]; done) | (rw [HEE.out]; rfl) | (rw [HEE.out]; simp), ?_⟩
    exact below_set2 HB.out (Nat.le_refl _) _ _
  · cases hp with
    | false =>
      have hE : itemB s.data.toList = ((b, b), n) := by rw [HI.out, if_pos (.inr rfl)]
      rw [hE]
      clear HI hE HH
      go_enter Tryd.func59, Tryd.ntmps59
      go_wp2_with fail
      refine HR.out.mono ?_
      rintro e w1 ⟨rfl, hB⟩
      have hA1 := Lib.hid ((Blk.new w 88 #[.int .u8 0, .int .u8 0]).below hB (by simp))
      have HB : Hid (Below w.heap.size w w1) := Lib.hid (((Below.refl _ w).alloc (Nat.le_refl _) _).trans (hB.mono (by simp)))
      have y0 : w1.cell? ⟨w.heap.size, 0, none⟩ = some (.int .u8 0) := hA1.out.cell 0
      have y1 : w1.cell? ⟨w.heap.size, 1, none⟩ = some (.int .u8 0) := hA1.out.cell 1
      have fy : ∀ i, w1.frozen? ⟨w.heap.size, i, none⟩ = false := hA1.out.frozen
      clear hB HR
      go_wp2_with (go_at_call 36; refine (HPx _).out.mono ?_; rintro e w' ⟨rfl, rfl⟩)
      have hb2 := Blk.set2 hA1.out (.int .u8 ((b : Nat) : Int)) (.int .u8 ((b : Nat) : Int))
      have d0 := hb2.cell 0
      have d1 := hb2.cell 1
      refine bodyPost_ret (v := .tuple #[.agg #[.int .u8 ((b : Nat) : Int), .int .u8 ((b : Nat) : Int)], .int .i64 ((n : Nat) : Int)]) (by simp [results, Tryd.results59, go_sem, d0, d1]) rfl ⟨by first | rfl | (simp; done) | (rw [HEE.out]; done) | (rw [HEE.out]; rfl) | (rw [HEE.out]; simp), ?_⟩
      exact below_set2 HB.out (Nat.le_refl _) _ _
    | true =>
      have hroom : n + 1 ≤ s.size := by have := hasPrefix_room _ _ HH.out.symm; rw [HSZ.out] at this; exact this
      obtain ⟨q, hq⟩ : ∃ q, q = byteB (s.data.toList.drop (n + 1)) := ⟨_, rfl⟩
      rw [← hq] at HI
      have hbl2 := byteB_lt (s.data.toList.drop (n + 1))
      rw [← hq] at hbl2
      have HR2 : ∀ w', Glob w' → Hid (Calls Tryd.prog 76 #[.string (s.extract (n + 1) s.size)] w' fun e w'' => e = .returned (.tuple #[.int .u8 q.1, .int .i64 q.2]) ∧ Below w'.heap.size w' w'') := by
        intro w' hG'
        have h := readByte_any (s.extract (n + 1) s.size) (by rw [ByteArray.size_extract]; omega) w' hG'
        rw [extract_drop, ← hq] at h
        exact h
      obtain ⟨t, m⟩ := q
      dsimp only at *
      have hm : m ≤ 140737488351232 := by
        have h1 := hbl2.2
        rw [List.length_drop, HSZ.out] at h1
        omega
      have ht := hbl2.1
      clear hq hbl2 HH
      have HI2 : Hid (itemB s.data.toList = if m = 0 ∨ t < b then ((0, 0), 0) else ((b, t), n + 1 + m)) := by
        rw [HI.out, if_neg (by simp [c1])]; rfl
      clear HI
      have c1' : ¬ (n : Int) = 0 := by omega
      go_enter Tryd.func59, Tryd.ntmps59
      go_wp2_with fail
      refine HR.out.mono ?_
      rintro e w1 ⟨rfl, hB⟩
      have hA1 := Lib.hid ((Blk.new w 88 #[.int .u8 0, .int .u8 0]).below hB (by simp))
      have HB : Hid (Below w.heap.size w w1) := Lib.hid (((Below.refl _ w).alloc (Nat.le_refl _) _).trans (hB.mono (by simp)))
      have y0 : w1.cell? ⟨w.heap.size, 0, none⟩ = some (.int .u8 0) := hA1.out.cell 0
      have y1 : w1.cell? ⟨w.heap.size, 1, none⟩ = some (.int .u8 0) := hA1.out.cell 1
      have fy : ∀ i, w1.frozen? ⟨w.heap.size, i, none⟩ = false := hA1.out.frozen
      clear hB HR
      have HR3 := HR2 w1 (HG.out.below (Nat.le_refl _) HB.out)
      clear HR2
      go_wp2_with (first | (go_at_call 36; refine (HPx _).out.mono ?_; rintro e w' ⟨rfl, rfl⟩) | fail)
      refine HR3.out.mono ?_
      rintro e w2 ⟨rfl, hB2⟩
      have hA2 := Lib.hid (hA1.out.below hB2 hA1.out.lt)
      have HB2 := Lib.hid (HB.out.trans (hB2.mono HB.out.size))
      have z0 : w2.cell? ⟨w.heap.size, 0, none⟩ = some (.int .u8 0) := hA2.out.cell 0
      have z1 : w2.cell? ⟨w.heap.size, 1, none⟩ = some (.int .u8 0) := hA2.out.cell 1
      have fz : ∀ i, w2.frozen? ⟨w.heap.size, i, none⟩ = false := hA2.out.frozen
      clear hB2 HR3 y0 y1 fy
      by_cases c3 : m = 0
      · have hE : itemB s.data.toList = ((0, 0), 0) := by rw [HI2.out, if_pos (.inl c3)]
        subst c3
        clear HI2
        have HEE := Lib.hid hE
        clear hE
        go_wp2
        have hb2 := Blk.set2 hA2.out (.int .u8 0) (.int .u8 0)
        have d0 := hb2.cell 0
        have d1 := hb2.cell 1
        refine bodyPost_ret (v := .tuple #[.agg #[.int .u8 0, .int .u8 0], .int .i64 0]) (by simp [results, Tryd.results59, go_sem, d0, d1]) rfl ⟨by first | rfl | (simp; done) | (rw [HEE.out]; done) | (rw [HEE.out]; rfl) | (rw [HEE.out]; simp), ?_⟩
        exact below_set2 HB2.out (Nat.le_refl _) _ _
      · have c3' : ¬ (m : Int) = 0 := by omega
        by_cases c4 : t < b
        · have hE : itemB s.data.toList = ((0, 0), 0) := by rw [HI2.out, if_pos (.inr c4)]
          clear HI2
          have HEE := Lib.hid hE
          clear hE
          go_wp2
          have hb2 := Blk.set2 hA2.out (.int .u8 0) (.int .u8 0)
          have d0 := hb2.cell 0
          have d1 := hb2.cell 1
          refine bodyPost_ret (v := .tuple #[.agg #[.int .u8 0, .int .u8 0], .int .i64 0]) (by simp [results, Tryd.results59, go_sem, d0, d1]) rfl ⟨by first | rfl | (simp; done) | (rw [HEE.out]; done) | (rw [HEE.out]; rfl) | (rw [HEE.out]; simp), ?_⟩
          exact below_set2 HB2.out (Nat.le_refl _) _ _
        · have hE : itemB s.data.toList = ((b, t), n + 1 + m) := by rw [HI2.out, if_neg (by simp [c3, c4])]
          clear HI2
          have HEE := Lib.hid hE
          clear hE
          go_wp2
          have hb2 := Blk.set2 hA2.out (.int .u8 ((b : Nat) : Int)) (.int .u8 ((t : Nat) : Int))
          have d0 := hb2.cell 0
          have d1 := hb2.cell 1
          refine bodyPost_ret (v := .tuple #[.agg #[.int .u8 ((b : Nat) : Int), .int .u8 ((t : Nat) : Int)], .int .i64 ((n + 1 + m : Nat) : Int)]) (by simp [results, Tryd.results59, go_sem, d0, d1]) rfl ⟨by first | rfl | (simp; done) | (rw [HEE.out]; done) | (rw [HEE.out]; rfl) | (rw [HEE.out]; simp), ?_⟩
          exact below_set2 HB2.out (Nat.le_refl _) _ _
end Go.Proofs.YtdodkbpagbblmaaDoor
