import Derived.WalkMore
import Derived.Laws.AppendOwnNone
import Derived.Deep.DeepCutAuto
import Derived.Deep.Slices
import Derived.ProofKit
import Derived.ChangeSame
import Derived.Deep.RegionHeld3
import Derived.Test.YtegmoeeeomjkgaaDoorZ1
import Derived.Test.YtegmoeeeomjkgaaDoorZ2
import Derived.Test.YtegmoeeeomjkgaaDoorZ3
section
namespace Go.Proofs.YtegmoeeeomjkgaaDoor
open Go Go.RowKit

/-- The item at a text's beginning: its range, and how long it is. -/
def itemB (l : List UInt8) : (Nat × Nat) × Nat :=
  if (byteB l).2 = 0 ∨ Lib.hasPrefix (l.drop (byteB l).2) [45] = false then (((byteB l).1, (byteB l).1), (byteB l).2)
  else if (byteB (l.drop ((byteB l).2 + 1))).2 = 0 ∨ (byteB (l.drop ((byteB l).2 + 1))).1 < (byteB l).1 then ((0, 0), 0)
  else (((byteB l).1, (byteB (l.drop ((byteB l).2 + 1))).1), (byteB l).2 + 1 + (byteB (l.drop ((byteB l).2 + 1))).2)

theorem extract_drop (s : ByteArray) (c : Nat) : (s.extract c s.size).data.toList = s.data.toList.drop c := by
  rw [ByteArray.data_extract, Array.toList_extract, List.extract_eq_take_drop]
  rw [List.take_of_length_le]
  simp

theorem hasPrefix_room (l : List UInt8) (n : Nat) (h : Lib.hasPrefix (l.drop n) [45] = true) : n + 1 ≤ l.length := by
  by_cases hn : n < l.length
  · omega
  · rw [List.drop_eq_nil_of_le (by omega)] at h
    cases h

theorem Blk.set2 {W : World} {B t : Nat} {a b : Value} (h : Blk W B t #[a, b]) (a' b' : Value) :
    Blk ((W.setCell ⟨B, 0, none⟩ a').setCell ⟨B, 1, none⟩ b') B t #[a', b'] := by
  simpa using (h.set 0 a').set 1 b'
theorem below_set2 {n B : Nat} {w W : World} (h : Below n w W) (hn : n ≤ B) (a' b' : Value) :
    Below n w ((W.setCell ⟨B, 0, none⟩ a').setCell ⟨B, 1, none⟩ b') :=
  (h.setCell (p := ⟨B, 0, none⟩) hn _).setCell (p := ⟨B, 1, none⟩) hn _

set_option maxRecDepth 100000 in
set_option maxHeartbeats 4000000 in
theorem readItem_any (s : ByteArray) (hs : s.size ≤ 140737488351232) (w : World) (hG : Glob w) :
    Calls Tryd.prog 53 #[.string s] w fun e w' => e = .returned (.tuple #[.agg #[.int .u8 (itemB s.data.toList).1.1, .int .u8 (itemB s.data.toList).1.2], .int .i64 (itemB s.data.toList).2]) ∧ Below w.heap.size w w' := by
  have HG := Lib.hid hG
  clear hG
  have hbl := byteB_lt s.data.toList
  have hsz : s.data.toList.length = s.size := (Lib.size_eq s).symm
  obtain ⟨q, hq⟩ : ∃ q, q = byteB s.data.toList := ⟨_, rfl⟩
  have HR := Lib.hid (readByte_any s hs (w.alloc (.cells #[.int .u8 0, .int .u8 0] 26)) (HG.out.below (Nat.le_refl _) ((Below.refl _ w).alloc (Nat.le_refl _) _)))
  have HI : Hid (itemB s.data.toList = if q.2 = 0 ∨ Lib.hasPrefix (s.data.toList.drop q.2) [45] = false then ((q.1, q.1), q.2)
      else if (byteB (s.data.toList.drop (q.2 + 1))).2 = 0 ∨ (byteB (s.data.toList.drop (q.2 + 1))).1 < q.1 then ((0, 0), 0)
      else ((q.1, (byteB (s.data.toList.drop (q.2 + 1))).1), q.2 + 1 + (byteB (s.data.toList.drop (q.2 + 1))).2)) := by
    rw [hq]; rfl
  rw [← hq] at HR hbl
  obtain ⟨b, n⟩ := q
  dsimp only at *
  have hn : n ≤ s.size := by omega
  have hb256 := hbl.1
  clear hq hbl
  obtain ⟨hp, hhp⟩ : ∃ hp, hp = Lib.hasPrefix (s.data.toList.drop n) [45] := ⟨_, rfl⟩
  rw [← hhp] at HI
  have HPx : ∀ w', Hid (Calls Tryd.prog 63 #[.string (s.extract n s.size), .string ⟨#[45]⟩] w' fun e w'' => e = .returned (.bool hp) ∧ w' = w'') := by
    intro w'
    refine Lib.hid ((Tryd.strings_HasPrefix _ _ _).mono ?_)
    rintro e w'' ⟨rfl, rfl⟩
    rw [extract_drop, hhp]
    exact ⟨rfl, rfl⟩
  have HH := Lib.hid hhp
  have HSZ := Lib.hid hsz
  clear hhp hsz
  by_cases c1 : n = 0
  · have hE : itemB s.data.toList = ((b, b), n) := by rw [HI.out, if_pos (.inl c1)]
    rw [hE]
    subst c1
    clear HI hE HPx HH
    go_enter Tryd.func53, Tryd.ntmps53
    go_wp2_with fail
    refine HR.out.mono ?_
    rintro e w1 ⟨rfl, hB⟩
    have hA1 := Lib.hid ((Blk.new w 26 #[.int .u8 0, .int .u8 0]).below hB (by simp))
    have HB : Hid (Below w.heap.size w w1) := Lib.hid (((Below.refl _ w).alloc (Nat.le_refl _) _).trans (hB.mono (by simp)))
    have y0 : w1.cell? ⟨w.heap.size, 0, none⟩ = some (.int .u8 0) := hA1.out.cell 0
    have y1 : w1.cell? ⟨w.heap.size, 1, none⟩ = some (.int .u8 0) := hA1.out.cell 1
    have fy : ∀ i, w1.frozen? ⟨w.heap.size, i, none⟩ = false := hA1.out.frozen
    clear hB HR
    go_wp2
    have hb2 := Blk.set2 hA1.out (.int .u8 ((b : Nat) : Int)) (.int .u8 ((b : Nat) : Int))
    have d0 := hb2.cell 0
    have d1 := hb2.cell 1
    refine bodyPost_ret (v := .tuple #[.agg #[.int .u8 ((b : Nat) : Int), .int .u8 ((b : Nat) : Int)], .int .i64 0]) (by simp [results, Tryd.results53, go_sem, d0, d1]) rfl ⟨by first | rfl | (simp; done) | (rw [HEE.out]; done) | (rw [HEE.out]; rfl) | (rw [HEE.out]; simp), ?_⟩
    exact below_set2 HB.out (Nat.le_refl _) _ _
  · cases hp with
    | false =>
      have hE : itemB s.data.toList = ((b, b), n) := by rw [HI.out, if_pos (.inr rfl)]
      rw [hE]
      clear HI hE HH
      go_enter Tryd.func53, Tryd.ntmps53
      go_wp2_with fail
      refine HR.out.mono ?_
      rintro e w1 ⟨rfl, hB⟩
      have hA1 := Lib.hid ((Blk.new w 26 #[.int .u8 0, .int .u8 0]).below hB (by simp))
      have HB : Hid (Below w.heap.size w w1) := Lib.hid (((Below.refl _ w).alloc (Nat.le_refl _) _).trans (hB.mono (by simp)))
      have y0 : w1.cell? ⟨w.heap.size, 0, none⟩ = some (.int .u8 0) := hA1.out.cell 0
      have y1 : w1.cell? ⟨w.heap.size, 1, none⟩ = some (.int .u8 0) := hA1.out.cell 1
      have fy : ∀ i, w1.frozen? ⟨w.heap.size, i, none⟩ = false := hA1.out.frozen
      clear hB HR
      go_wp2_with (go_at_call 63; refine (HPx _).out.mono ?_; rintro e w' ⟨rfl, rfl⟩)
      have hb2 := Blk.set2 hA1.out (.int .u8 ((b : Nat) : Int)) (.int .u8 ((b : Nat) : Int))
      have d0 := hb2.cell 0
      have d1 := hb2.cell 1
      refine bodyPost_ret (v := .tuple #[.agg #[.int .u8 ((b : Nat) : Int), .int .u8 ((b : Nat) : Int)], .int .i64 ((n : Nat) : Int)]) (by simp [results, Tryd.results53, go_sem, d0, d1]) rfl ⟨by first | rfl | (simp; done) | (rw [HEE.out]; done) | (rw [HEE.out]; rfl) | (rw [HEE.out]; simp), ?_⟩
      exact below_set2 HB.out (Nat.le_refl _) _ _
    | true =>
      have hroom : n + 1 ≤ s.size := by have := hasPrefix_room _ _ HH.out.symm; rw [HSZ.out] at this; exact this
      obtain ⟨q, hq⟩ : ∃ q, q = byteB (s.data.toList.drop (n + 1)) := ⟨_, rfl⟩
      rw [← hq] at HI
      have hbl2 := byteB_lt (s.data.toList.drop (n + 1))
      rw [← hq] at hbl2
      have HR2 : ∀ w', Glob w' → Hid (Calls Tryd.prog 62 #[.string (s.extract (n + 1) s.size)] w' fun e w'' => e = .returned (.tuple #[.int .u8 q.1, .int .i64 q.2]) ∧ Below w'.heap.size w' w'') := by
        intro w' hG'
        have h := readByte_any (s.extract (n + 1) s.size) (by rw [ByteArray.size_extract]; omega) w' hG'
        rw [extract_drop, ← hq] at h
        exact h
      obtain ⟨t, m⟩ := q
      dsimp only at *
      have hm : m ≤ 140737488351232 := by
        have h1 := hbl2.2
        rw [List.length_drop, HSZ.out] at h1
        omega
      have ht := hbl2.1
      clear hq hbl2 HH
      have HI2 : Hid (itemB s.data.toList = if m = 0 ∨ t < b then ((0, 0), 0) else ((b, t), n + 1 + m)) := by
        rw [HI.out, if_neg (by simp [c1])]; rfl
      clear HI
      have c1' : ¬ (n : Int) = 0 := by omega
      go_enter Tryd.func53, Tryd.ntmps53
      go_wp2_with fail
      refine HR.out.mono ?_
      rintro e w1 ⟨rfl, hB⟩
      have hA1 := Lib.hid ((Blk.new w 26 #[.int .u8 0, .int .u8 0]).below hB (by simp))
      have HB : Hid (Below w.heap.size w w1) := Lib.hid (((Below.refl _ w).alloc (Nat.le_refl _) _).trans (hB.mono (by simp)))
      have y0 : w1.cell? ⟨w.heap.size, 0, none⟩ = some (.int .u8 0) := hA1.out.cell 0
      have y1 : w1.cell? ⟨w.heap.size, 1, none⟩ = some (.int .u8 0) := hA1.out.cell 1
      have fy : ∀ i, w1.frozen? ⟨w.heap.size, i, none⟩ = false := hA1.out.frozen
      clear hB HR
      have HR3 := HR2 w1 (HG.out.below (Nat.le_refl _) HB.out)
      clear HR2
      go_wp2_with (first | (go_at_call 63; refine (HPx _).out.mono ?_; rintro e w' ⟨rfl, rfl⟩) | fail)
      refine HR3.out.mono ?_
      rintro e w2 ⟨rfl, hB2⟩
      have hA2 := Lib.hid (hA1.out.below hB2 hA1.out.lt)
      have HB2 := Lib.hid (HB.out.trans (hB2.mono HB.out.size))
      have z0 : w2.cell? ⟨w.heap.size, 0, none⟩ = some (.int .u8 0) := hA2.out.cell 0
      have z1 : w2.cell? ⟨w.heap.size, 1, none⟩ = some (.int .u8 0) := hA2.out.cell 1
      have fz : ∀ i, w2.frozen? ⟨w.heap.size, i, none⟩ = false := hA2.out.frozen
      clear hB2 HR3 y0 y1 fy
      by_cases c3 : m = 0
      · have hE : itemB s.data.toList = ((0, 0), 0) := by rw [HI2.out, if_pos (.inl c3)]
        subst c3
        clear HI2
        have HEE := Lib.hid hE
        clear hE
        go_wp2
        have hb2 := Blk.set2 hA2.out (.int .u8 0) (.int .u8 0)
        have d0 := hb2.cell 0
        have d1 := hb2.cell 1
        refine bodyPost_ret (v := .tuple #[.agg #[.int .u8 0, .int .u8 0], .int .i64 0]) (by simp [results, Tryd.results53, go_sem, d0, d1]) rfl ⟨by first | rfl | (simp; done) | (rw [HEE.out]; done) | (rw [HEE.out]; rfl) | (rw [HEE.out]; simp), ?_⟩
        exact below_set2 HB2.out (Nat.le_refl _) _ _
      · have c3' : ¬ (m : Int) = 0 := by omega
        by_cases c4 : t < b
        · have hE : itemB s.data.toList = ((0, 0), 0) := by rw [HI2.out, if_pos (.inr c4)]
          clear HI2
          have HEE := Lib.hid hE
          clear hE
          go_wp2
          have hb2 := Blk.set2 hA2.out (.int .u8 0) (.int .u8 0)
          have d0 := hb2.cell 0
          have d1 := hb2.cell 1
          refine bodyPost_ret (v := .tuple #[.agg #[.int .u8 0, .int .u8 0], .int .i64 0]) (by simp [results, Tryd.results53, go_sem, d0, d1]) rfl ⟨by first | rfl | (simp; done) | (rw [HEE.out]; done) | (rw [HEE.out]; rfl) | (rw [HEE.out]; simp), ?_⟩
          exact below_set2 HB2.out (Nat.le_refl _) _ _
        · have hE : itemB s.data.toList = ((b, t), n + 1 + m) := by rw [HI2.out, if_neg (by simp [c3, c4])]
          clear HI2
          have HEE := Lib.hid hE
          clear hE
          go_wp2
          have hb2 := Blk.set2 hA2.out (.int .u8 ((b : Nat) : Int)) (.int .u8 ((t : Nat) : Int))
          have d0 := hb2.cell 0
          have d1 := hb2.cell 1
          refine bodyPost_ret (v := .tuple #[.agg #[.int .u8 ((b : Nat) : Int), .int .u8 ((t : Nat) : Int)], .int .i64 ((n + 1 + m : Nat) : Int)]) (by simp [results, Tryd.results53, go_sem, d0, d1]) rfl ⟨by first | rfl | (simp; done) | (rw [HEE.out]; done) | (rw [HEE.out]; rfl) | (rw [HEE.out]; simp), ?_⟩
          exact below_set2 HB2.out (Nat.le_refl _) _ _
end Go.Proofs.YtegmoeeeomjkgaaDoor
end
section
namespace Go.Proofs.YtegmoeeeomjkgaaDoor
open Go Go.RowKit

/-- The items of a set's text, up to its end. -/
def readItems : Nat → BS → List UInt8 → Option BS
  | 0, _, _ => none
  | f + 1, s, l => if l = [93] then some s else if (itemB l).2 = 0 then none else readItems f (addR s (itemB l).1) (l.drop (itemB l).2)

/-- The set that a text is. -/
def readS (l : List UInt8) : Option BS :=
  if Lib.hasPrefix l [91] then
    if Lib.hasPrefix (Lib.trimPrefix l [91]) [94] then
      (readItems ((Lib.trimPrefix (Lib.trimPrefix l [91]) [94]).length + 1) 0#256 (Lib.trimPrefix (Lib.trimPrefix l [91]) [94])).map (fun s => ~~~s)
    else readItems ((Lib.trimPrefix l [91]).length + 1) 0#256 (Lib.trimPrefix l [91])
  else none

def readV : Option BS → Value
  | some s => .tuple #[vset s, .int .i64 0]
  | none => .tuple #[.agg #[.int .u64 0, .int .u64 0, .int .u64 0, .int .u64 0], .int .i64 120]

def strLen : Value → Nat
  | .string s => s.size
  | _ => 0

theorem trim_len (l p : List UInt8) : (Lib.trimPrefix l p).length ≤ l.length := by
  unfold Lib.trimPrefix; split
  · simp
  · exact Nat.le_refl _

theorem itemB_lt (l : List UInt8) : (itemB l).1.1 < 256 ∧ (itemB l).1.2 < 256 ∧ (itemB l).2 ≤ l.length := by
  have h1 := byteB_lt l
  have h2 := byteB_lt (l.drop ((byteB l).2 + 1))
  unfold itemB
  split
  · exact ⟨h1.1, h1.1, h1.2⟩
  · rename_i hc
    have hp : Lib.hasPrefix (l.drop (byteB l).2) [45] = true := by
      cases h : Lib.hasPrefix (l.drop (byteB l).2) [45] with
      | true => rfl
      | false => exact absurd (.inr h) hc
    have hr := hasPrefix_room _ _ hp
    split
    · exact ⟨by decide, by decide, Nat.zero_le _⟩
    · refine ⟨h1.1, h2.1, ?_⟩
      have := h2.2
      rw [List.length_drop] at this
      dsimp only
      omega

set_option maxRecDepth 100000 in
set_option maxHeartbeats 4000000 in
theorem read_any (s : ByteArray) (hs : s.size ≤ 140737488351232) (w : World) (hG : Glob w) :
    Calls Tryd.prog 36 #[.string s] w fun e w' => e = .returned (readV (readS s.data.toList)) ∧ Below w.heap.size w w' := by
  have HG := Lib.hid hG
  clear hG
  have hsz : s.data.toList.length = s.size := (Lib.size_eq s).symm
  have HC1 : ∀ w', Hid (Calls Tryd.prog 52 #[.string s, .string ⟨#[91]⟩] w' fun e w'' => e = .returned (.tuple #[.string ⟨(Lib.trimPrefix s.data.toList [91]).toArray⟩, .bool (Lib.hasPrefix s.data.toList [91])]) ∧ w' = w'') := fun w' => (Tryd.strings_CutPrefix s ⟨#[91]⟩ w').mono fun _ _ ⟨a, b⟩ => ⟨a, b.symm⟩
  have hl1 := trim_len s.data.toList [91]
  obtain ⟨R, hR⟩ : ∃ R, R = readV (readS s.data.toList) := ⟨_, rfl⟩
  rw [← hR]
  have HR := Lib.hid hR
  clear hR
  obtain ⟨l1, hl1e⟩ : ∃ l1, l1 = Lib.trimPrefix s.data.toList [91] := ⟨_, rfl⟩
  rw [← hl1e] at HC1 hl1
  have HL1 := Lib.hid hl1e
  clear hl1e
  cases hp : Lib.hasPrefix s.data.toList [91] with
  | false =>
    have hE : R = readV none := by rw [HR.out, readS, hp]; rfl
    rw [hE]
    rw [hp] at HC1
    clear HR hE HL1 hp
    unfold readV
    go_enter Tryd.func36, Tryd.ntmps36
    go_wp2
    go_step3
    go_wp2_with (go_at_call 52; refine (HC1 _).out.mono ?_; rintro e w' ⟨rfl, rfl⟩)
    rw [Exit.noGoto_ret]
    refine bodyPost_ret (v := .tuple #[.agg #[.int .u64 0, .int .u64 0, .int .u64 0, .int .u64 0], .int .i64 120]) (by simp [results, Tryd.results36, go_sem]) rfl ⟨rfl, ?_⟩
    exact (Below.refl _ w).alloc (Nat.le_refl _) _
  | true =>
    rw [hp] at HC1
    have HC2 : ∀ w', Hid (Calls Tryd.prog 52 #[.string ⟨l1.toArray⟩, .string ⟨#[94]⟩] w' fun e w'' => e = .returned (.tuple #[.string ⟨(Lib.trimPrefix l1 [94]).toArray⟩, .bool (Lib.hasPrefix l1 [94])]) ∧ w' = w'') := fun w' => (Tryd.strings_CutPrefix ⟨l1.toArray⟩ ⟨#[94]⟩ w').mono fun _ _ ⟨a, b⟩ => ⟨by simpa using a, b.symm⟩
    have hl2 := trim_len l1 [94]
    obtain ⟨l2, hl2e⟩ : ∃ l2, l2 = Lib.trimPrefix l1 [94] := ⟨_, rfl⟩
    rw [← hl2e] at HC2 hl2
    obtain ⟨ot, hot⟩ : ∃ ot, ot = Lib.hasPrefix l1 [94] := ⟨_, rfl⟩
    rw [← hot] at HC2
    have HE : Hid (R = readV ((readItems (l2.length + 1) 0#256 l2).map (fun s => if ot then ~~~s else s))) := by
      refine Lib.hid ?_
      rw [HR.out, readS, hp, ← HL1.out, ← hot, hl2e]
      cases ot with
      | true => rfl
      | false =>
        have : Lib.trimPrefix l1 [94] = l1 := by unfold Lib.trimPrefix; rw [← hot]; rfl
        rw [this]
        simp
    clear HR HL1 hl2e hot hp
    go_enter Tryd.func36, Tryd.ntmps36
    go_wp2
    go_step3
    go_wp2_with fail
    refine (HC1 _).out.mono ?_
    rintro e w' ⟨rfl, rfl⟩
    clear HC1
    go_wp2_with fail
    refine (HC2 _).out.mono ?_
    rintro e w' ⟨rfl, rfl⟩
    clear HC2
    go_wp2
    go_step3
    go_wp2
    go_loopw [4] (fun p wr => ∃ (l : List UInt8) (u : BS) (f : Nat), p = .string ⟨l.toArray⟩ ∧ l.length ≤ 140737488351232 ∧ Hid (l.length < f) ∧ Hid (readItems (l2.length + 1) 0#256 l2 = readItems f u l) ∧ Hid (Blk wr w.heap.size 29 zcs) ∧ Hid (Blk wr (w.heap.size + 1) 29 (cset u)) ∧ Hid (Below w.heap.size w wr))
      (fun p _ => strLen p)
    case atStart =>
      refine ⟨l2, 0#256, l2.length + 1, rfl, by omega, Nat.lt_succ_self _, rfl, ?_, ?_, ?_⟩
      · exact (Blk.new w 29 zcs).alloc _
      · have h := Blk.new (w.alloc (.cells #[.int .u64 0, .int .u64 0, .int .u64 0, .int .u64 0] 29)) 29 #[.int .u64 0, .int .u64 0, .int .u64 0, .int .u64 0]
        rw [World.size_alloc] at h
        have e : cset 0#256 = zcs := by
          have h : ∀ i, i < 4 → wdI 0#256 i = 0 := by decide
          unfold cset zcs; rw [h 0 (by omega), h 1 (by omega), h 2 (by omega), h 3 (by omega)]
        rw [e]
        exact h
      · exact ((Below.refl _ w).alloc (Nat.le_refl _) _).alloc (by simp) _
    case round =>
      obtain ⟨l, u, f, rfl, hl, hf, hr, hZ, hU, hB⟩ := hrel
      have HI := Lib.hid (readItem_any ⟨l.toArray⟩ (by simpa [Lib.size_eq] using hl) wr (HG.out.below (Nat.le_refl _) hB.out))
      obtain ⟨q, hq⟩ : ∃ q, q = itemB l := ⟨_, rfl⟩
      have hq2 : q = itemB (⟨l.toArray⟩ : ByteArray).data.toList := hq
      rw [← hq2] at HI
      clear hq2
      obtain ⟨⟨a, b⟩, n⟩ := q
      dsimp only at HI
      go_wp2_with fail
      refine HI.out.mono ?_
      rintro e w1 ⟨rfl, hB1⟩
      have hZ1 := Lib.hid (hZ.out.below hB1 hZ.out.lt)
      have hU1 := Lib.hid (hU.out.below hB1 hU.out.lt)
      have hBB := Lib.hid (hB.out.trans (hB1.mono hB.out.size))
      have hlt1 : w.heap.size + 1 < w1.heap.size := hU1.out.lt
      clear hZ hU hB hB1 HI
      cases hne : (l == [93]) with
      | true =>
        have hl93 : l = [93] := by simpa using hne
        have hres : Hid (readItems (l2.length + 1) 0#256 l2 = some u) := by
          refine Lib.hid ?_
          rw [hr.out]
          have := hf.out
          match f, this with
          | f + 1, _ => rw [readItems, if_pos hl93]
        have HRE : Hid (R = .tuple #[vset (if ot then ~~~u else u), .int .i64 0]) := by
          refine Lib.hid ?_
          rw [HE.out, hres.out]; rfl
        clear HE hr hf hres
        have c0 : ∀ o, (w1.alloc o).cell? ⟨(w.heap.size + 1), 0, none⟩ = some (.int .u64 (wdI (u) 0)) := fun o => (Blk.alloc hU1.out o).cell 0
        have c1 : ∀ o, (w1.alloc o).cell? ⟨(w.heap.size + 1), 1, none⟩ = some (.int .u64 (wdI (u) 1)) := fun o => (Blk.alloc hU1.out o).cell 1
        have c2 : ∀ o, (w1.alloc o).cell? ⟨(w.heap.size + 1), 2, none⟩ = some (.int .u64 (wdI (u) 2)) := fun o => (Blk.alloc hU1.out o).cell 2
        have c3 : ∀ o, (w1.alloc o).cell? ⟨(w.heap.size + 1), 3, none⟩ = some (.int .u64 (wdI (u) 3)) := fun o => (Blk.alloc hU1.out o).cell 3
        have z0 : ∀ o, (w1.alloc o).cell? ⟨w.heap.size, 0, none⟩ = some (.int .u64 0) := fun o => (Blk.alloc hZ1.out o).cell 0
        have z1 : ∀ o, (w1.alloc o).cell? ⟨w.heap.size, 1, none⟩ = some (.int .u64 0) := fun o => (Blk.alloc hZ1.out o).cell 1
        have z2 : ∀ o, (w1.alloc o).cell? ⟨w.heap.size, 2, none⟩ = some (.int .u64 0) := fun o => (Blk.alloc hZ1.out o).cell 2
        have z3 : ∀ o, (w1.alloc o).cell? ⟨w.heap.size, 3, none⟩ = some (.int .u64 0) := fun o => (Blk.alloc hZ1.out o).cell 3
        have fz : ∀ o i, (w1.alloc o).frozen? ⟨w.heap.size, i, none⟩ = false := fun o => (Blk.alloc hZ1.out o).frozen
        have fc : ∀ o i, (w1.alloc o).frozen? ⟨(w.heap.size + 1), i, none⟩ = false := fun o => (Blk.alloc hU1.out o).frozen
        cases ot with
        | false =>
          go_wp2
          have hb2 := Blk.set4 (Blk.alloc hZ1.out (.cells #[.int .u8 a, .int .u8 b] 26)) (.int .u64 (wdI u 0)) (.int .u64 (wdI u 1)) (.int .u64 (wdI u 2)) (.int .u64 (wdI u 3))
          have d0 := hb2.cell 0
          have d1 := hb2.cell 1
          have d2 := hb2.cell 2
          have d3 := hb2.cell 3
          rw [Exit.noGoto_ret]
          refine bodyPost_ret (v := .tuple #[.agg #[.int .u64 (wdI u 0), .int .u64 (wdI u 1), .int .u64 (wdI u 2), .int .u64 (wdI u 3)], .int .i64 0]) (by simp [results, Tryd.results36, go_sem, d0, d1, d2, d3]) rfl ⟨by rw [HRE.out]; rfl, ?_⟩
          exact below_set4 (hBB.out.alloc hBB.out.size _) (Nat.le_refl _) _ _ _ _
        | true =>
          have HN := fun w' => Lib.hid (not_any u w')
          go_wp2_with fail
          refine (HN _).out.mono ?_
          rintro e w2 ⟨rfl, hB2⟩
          have hZ2 := Lib.hid ((Blk.alloc hZ1.out (.cells #[.int .u8 a, .int .u8 b] 26)).below hB2 (by simp; omega))
          have hU2 := Lib.hid ((Blk.alloc hU1.out (.cells #[.int .u8 a, .int .u8 b] 26)).below hB2 (by simp; omega))
          have hBB2 := Lib.hid ((hBB.out.alloc hBB.out.size (.cells #[.int .u8 a, .int .u8 b] 26)).trans (hB2.mono (by have := hBB.out.size; simp; omega)))
          clear hZ1 hU1 hBB hB2 c0 c1 c2 c3 z0 z1 z2 z3 fz fc HN
          have HRE2 : Hid (R = .tuple #[vset (~~~u), .int .i64 0]) := HRE
          clear HRE
          obtain ⟨v, hv⟩ : ∃ v, v = ~~~u := ⟨_, rfl⟩
          rw [← hv] at HRE2 ⊢
          clear hv
          have c0 : w2.cell? ⟨(w.heap.size + 1), 0, none⟩ = some (.int .u64 (wdI (u) 0)) := Blk.cell hU2.out 0
          have c1 : w2.cell? ⟨(w.heap.size + 1), 1, none⟩ = some (.int .u64 (wdI (u) 1)) := Blk.cell hU2.out 1
          have c2 : w2.cell? ⟨(w.heap.size + 1), 2, none⟩ = some (.int .u64 (wdI (u) 2)) := Blk.cell hU2.out 2
          have c3 : w2.cell? ⟨(w.heap.size + 1), 3, none⟩ = some (.int .u64 (wdI (u) 3)) := Blk.cell hU2.out 3
          have z0 : w2.cell? ⟨w.heap.size, 0, none⟩ = some (.int .u64 0) := Blk.cell hZ2.out 0
          have z1 : w2.cell? ⟨w.heap.size, 1, none⟩ = some (.int .u64 0) := Blk.cell hZ2.out 1
          have z2 : w2.cell? ⟨w.heap.size, 2, none⟩ = some (.int .u64 0) := Blk.cell hZ2.out 2
          have z3 : w2.cell? ⟨w.heap.size, 3, none⟩ = some (.int .u64 0) := Blk.cell hZ2.out 3
          have fz : ∀ i, w2.frozen? ⟨w.heap.size, i, none⟩ = false := Blk.frozen hZ2.out
          have fc : ∀ i, w2.frozen? ⟨(w.heap.size + 1), i, none⟩ = false := Blk.frozen hU2.out
          unfold vset
          have hU3 := Lib.hid (Blk.set4 hU2.out (.int .u64 (wdI v 0)) (.int .u64 (wdI v 1)) (.int .u64 (wdI v 2)) (.int .u64 (wdI v 3)))
          have hZ3 := Lib.hid ((((hZ2.out.other (a := ⟨w.heap.size + 1, 0, none⟩) (by simp) (.int .u64 (wdI v 0))).other (a := ⟨w.heap.size + 1, 1, none⟩) (by simp) (.int .u64 (wdI v 1))).other (a := ⟨w.heap.size + 1, 2, none⟩) (by simp) (.int .u64 (wdI v 2))).other (a := ⟨w.heap.size + 1, 3, none⟩) (by simp) (.int .u64 (wdI v 3)))
          have hB3 := Lib.hid (below_set4 (B := w.heap.size + 1) hBB2.out (by omega) (.int .u64 (wdI v 0)) (.int .u64 (wdI v 1)) (.int .u64 (wdI v 2)) (.int .u64 (wdI v 3)))
          go_wp2
          have hb2 := Blk.set4 hZ3.out (.int .u64 (wdI v 0)) (.int .u64 (wdI v 1)) (.int .u64 (wdI v 2)) (.int .u64 (wdI v 3))
          have d0 := hb2.cell 0
          have d1 := hb2.cell 1
          have d2 := hb2.cell 2
          have d3 := hb2.cell 3
          rw [Exit.noGoto_ret]
          refine bodyPost_ret (v := .tuple #[.agg #[.int .u64 (wdI v 0), .int .u64 (wdI v 1), .int .u64 (wdI v 2), .int .u64 (wdI v 3)], .int .i64 0]) (by simp [results, Tryd.results36, go_sem, d0, d1, d2, d3]) rfl ⟨by rw [HRE2.out]; rfl, ?_⟩
          exact below_set4 hB3.out (Nat.le_refl _) _ _ _ _
      | false =>
        have hl93 : ¬ l = [93] := by simpa using hne
        by_cases hn0 : n = 0
        · subst hn0
          have hres : Hid (readItems (l2.length + 1) 0#256 l2 = none) := by
            refine Lib.hid ?_
            rw [hr.out]
            have := hf.out
            match f, this with
            | f + 1, _ => rw [readItems, if_neg hl93, ← hq, if_pos rfl]
          have HRE : Hid (R = .tuple #[.agg #[.int .u64 0, .int .u64 0, .int .u64 0, .int .u64 0], .int .i64 120]) := by
            refine Lib.hid ?_
            rw [HE.out, hres.out]; rfl
          clear HE hr hf hres hq
          have z0 : ∀ o, (w1.alloc o).cell? ⟨w.heap.size, 0, none⟩ = some (.int .u64 0) := fun o => (Blk.alloc hZ1.out o).cell 0
          have z1 : ∀ o, (w1.alloc o).cell? ⟨w.heap.size, 1, none⟩ = some (.int .u64 0) := fun o => (Blk.alloc hZ1.out o).cell 1
          have z2 : ∀ o, (w1.alloc o).cell? ⟨w.heap.size, 2, none⟩ = some (.int .u64 0) := fun o => (Blk.alloc hZ1.out o).cell 2
          have z3 : ∀ o, (w1.alloc o).cell? ⟨w.heap.size, 3, none⟩ = some (.int .u64 0) := fun o => (Blk.alloc hZ1.out o).cell 3
          have fz : ∀ o i, (w1.alloc o).frozen? ⟨w.heap.size, i, none⟩ = false := fun o => (Blk.alloc hZ1.out o).frozen
          go_wp2
          have hb2 := Blk.set4 (Blk.alloc hZ1.out (.cells #[.int .u8 a, .int .u8 b] 26)) (.int .u64 0) (.int .u64 0) (.int .u64 0) (.int .u64 0)
          have d0 := hb2.cell 0
          have d1 := hb2.cell 1
          have d2 := hb2.cell 2
          have d3 := hb2.cell 3
          rw [Exit.noGoto_ret]
          refine bodyPost_ret (v := .tuple #[.agg #[.int .u64 0, .int .u64 0, .int .u64 0, .int .u64 0], .int .i64 120]) (by simp [results, Tryd.results36, go_sem, d0, d1, d2, d3]) rfl ⟨by rw [HRE.out], ?_⟩
          exact below_set4 (hBB.out.alloc hBB.out.size _) (Nat.le_refl _) _ _ _ _
        · have hn1 : ¬ (n : Int) = 0 := by omega
          have hbd := itemB_lt l
          rw [← hq] at hbd
          dsimp only at hbd
          obtain ⟨ha, hb, hnl⟩ := hbd
          obtain ⟨g, hg⟩ : ∃ g, f = g + 1 := ⟨f - 1, by have := hf.out; omega⟩
          have hstep : Hid (readItems (l2.length + 1) 0#256 l2 = readItems g (addR u (a, b)) (l.drop n)) := by
            refine Lib.hid ?_
            rw [hr.out, hg, readItems, if_neg hl93, ← hq, if_neg hn0]
          have hfd : Hid ((l.drop n).length < g) := by
            refine Lib.hid ?_
            have := hf.out
            rw [List.length_drop]; omega
          clear hr hf hq hg
          have HW := fun w' => Lib.hid (withRange_any u (a, b) ha hb w')
          have hdrop : Hid (ByteArray.extract ⟨l.toArray⟩ n l.length = ⟨(l.drop n).toArray⟩) := by
            refine Lib.hid ?_
            apply ByteArray.ext
            apply Array.ext'
            have := extract_drop ⟨l.toArray⟩ n
            simpa [ByteArray.size] using this
          have c0 : ∀ o, (w1.alloc o).cell? ⟨(w.heap.size + 1), 0, none⟩ = some (.int .u64 (wdI (u) 0)) := fun o => (Blk.alloc hU1.out o).cell 0
          have c1 : ∀ o, (w1.alloc o).cell? ⟨(w.heap.size + 1), 1, none⟩ = some (.int .u64 (wdI (u) 1)) := fun o => (Blk.alloc hU1.out o).cell 1
          have c2 : ∀ o, (w1.alloc o).cell? ⟨(w.heap.size + 1), 2, none⟩ = some (.int .u64 (wdI (u) 2)) := fun o => (Blk.alloc hU1.out o).cell 2
          have c3 : ∀ o, (w1.alloc o).cell? ⟨(w.heap.size + 1), 3, none⟩ = some (.int .u64 (wdI (u) 3)) := fun o => (Blk.alloc hU1.out o).cell 3
          go_wp2_with fail
          refine (HW _).out.mono ?_
          rintro e w2 ⟨rfl, hB2⟩
          have hZ2 := Lib.hid ((Blk.alloc hZ1.out (.cells #[.int .u8 a, .int .u8 b] 26)).below hB2 (by simp; omega))
          have hU2 := Lib.hid ((Blk.alloc hU1.out (.cells #[.int .u8 a, .int .u8 b] 26)).below hB2 (by simp; omega))
          have hBB2 := Lib.hid ((hBB.out.alloc hBB.out.size (.cells #[.int .u8 a, .int .u8 b] 26)).trans (hB2.mono (by have := hBB.out.size; simp; omega)))
          clear hZ1 hU1 hBB hB2 c0 c1 c2 c3 HW
          obtain ⟨v, hv⟩ : ∃ v, v = addR u (a, b) := ⟨_, rfl⟩
          rw [← hv] at hstep ⊢
          clear hv
          have c0 : w2.cell? ⟨(w.heap.size + 1), 0, none⟩ = some (.int .u64 (wdI (u) 0)) := Blk.cell hU2.out 0
          have c1 : w2.cell? ⟨(w.heap.size + 1), 1, none⟩ = some (.int .u64 (wdI (u) 1)) := Blk.cell hU2.out 1
          have c2 : w2.cell? ⟨(w.heap.size + 1), 2, none⟩ = some (.int .u64 (wdI (u) 2)) := Blk.cell hU2.out 2
          have c3 : w2.cell? ⟨(w.heap.size + 1), 3, none⟩ = some (.int .u64 (wdI (u) 3)) := Blk.cell hU2.out 3
          have fc : ∀ i, w2.frozen? ⟨(w.heap.size + 1), i, none⟩ = false := Blk.frozen hU2.out
          unfold vset
          go_wp2
          go_roundw
          case rel =>
            refine ⟨l.drop n, v, g, ?_, ?_, hfd, hstep, ?_, ?_, ?_⟩
            · rw [hdrop.out]
            · rw [List.length_drop]; omega
            · exact (((hZ2.out.other (by simp) _).other (by simp) _).other (by simp) _).other (by simp) _
            · exact hU2.out.set4 _ _ _ _
            · exact below_set4 hBB2.out (by omega) _ _ _ _
          case measure => rw [hdrop.out]; simp [strLen, ByteArray.size]; omega
end Go.Proofs.YtegmoeeeomjkgaaDoor
end
section
namespace Go.Proofs.YtegmoeeeomjkgaaDoor
open Go Go.RowKit Go.Shelf

/-- The set of the letters a to z and a line end. -/
def wset : BS := 10633823807823001954701781295154856960#256

theorem w_make : makeV [(97, 122), (10, 10)] = .tuple #[vset wset, .int .i64 0] := by
  have h : makeR 0#256 [(97, 122), (10, 10)] = some wset := by decide +kernel
  unfold makeV; rw [h]
theorem w_read : readS [91, 92, 110, 97, 45, 122, 93] = some wset := by decide +kernel
theorem w_bad : readS [91, 122, 45, 97, 93] = none := by decide +kernel
theorem w_text : textS wset = [91, 92, 110, 97, 45, 122, 93] := by decide +kernel
theorem w_count : cnt wset = 27 := by decide +kernel
theorem w_q : wset.getLsbD 113 = true := by decide
theorem w_Q : wset.getLsbD 81 = false := by decide
end Go.Proofs.YtegmoeeeomjkgaaDoor
end
section
namespace Go.Proofs.YtegmoeeeomjkgaaDoor
open Go Go.RowKit

theorem part27 (a b c d : Int) (w : World) : (part 27 #[.int .u64 a, .int .u64 b, .int .u64 c, .int .u64 d] 0).run Tryd.prog w = .ok (.int .u64 a) w := by kernel_rfl
theorem part27_1 (a b c d : Int) (w : World) : (part 27 #[.int .u64 a, .int .u64 b, .int .u64 c, .int .u64 d] 1).run Tryd.prog w = .ok (.int .u64 b) w := by kernel_rfl
theorem part27_2 (a b c d : Int) (w : World) : (part 27 #[.int .u64 a, .int .u64 b, .int .u64 c, .int .u64 d] 2).run Tryd.prog w = .ok (.int .u64 c) w := by kernel_rfl
theorem part27_3 (a b c d : Int) (w : World) : (part 27 #[.int .u64 a, .int .u64 b, .int .u64 c, .int .u64 d] 3).run Tryd.prog w = .ok (.int .u64 d) w := by kernel_rfl
theorem size27 (w : World) : (sizeOf 27).run Tryd.prog w = .ok 1 w := by kernel_rfl

theorem eq_words (n : Nat) (a b c d a' b' c' d' : Int) (w : World) : (Op.equalIn (n + 2) 29 (.agg #[.int .u64 a, .int .u64 b, .int .u64 c, .int .u64 d]) (.agg #[.int .u64 a', .int .u64 b', .int .u64 c', .int .u64 d'])).run Tryd.prog w =
    .ok (a == a' && (b == b' && (c == c' && d == d'))) w := by
  have hu : Tryd.prog.underlying 29 = some (.array 4 27) := by kernel_rfl
  have h27 : Tryd.prog.underlying 27 = some (.int .u64) := by kernel_rfl
  rw [Op.equalIn]
  simp only [Sem.run_bind, run_underlying hu, Result.andThen_ok, size27]
  simp only [Std.Legacy.Range.forIn_eq_forIn_range', Std.Legacy.Range.size]
  rw [show List.range' 0 ((4 - 0 + 1 - 1) / 1) = [0, 1, 2, 3] from rfl]
  simp only [List.forIn_cons, List.forIn_nil, Sem.run_bind, Nat.reduceMul, part27, part27_1, part27_2, part27_3, Result.andThen_ok, run_equalIn_int w n 27 .u64 .u64 _ _ h27]
  by_cases h0 : a = a'
  · by_cases h1 : b = b'
    · by_cases h2 : c = c'
      · by_cases h3 : d = d' <;> simp [h0, h1, h2, h3, part27_1, part27_2, part27_3, run_equalIn_int _ n 27 .u64 .u64 _ _ h27]
      · simp [h0, h1, h2, part27_1, part27_2, part27_3, run_equalIn_int _ n 27 .u64 .u64 _ _ h27]
    · simp [h0, h1, part27_1, part27_2, part27_3, run_equalIn_int _ n 27 .u64 .u64 _ _ h27]
  · simp [h0, part27_1, part27_2, part27_3, run_equalIn_int _ n 27 .u64 .u64 _ _ h27]

theorem vset_beq (s t : BS) : (wdI s 0 == wdI t 0 && (wdI s 1 == wdI t 1 && (wdI s 2 == wdI t 2 && wdI s 3 == wdI t 3))) = (s == t) := by
  by_cases h : s = t
  · subst h; simp
  · have : (s == t) = false := by simpa using h
    rw [this]
    cases hx : (wdI s 0 == wdI t 0 && (wdI s 1 == wdI t 1 && (wdI s 2 == wdI t 2 && wdI s 3 == wdI t 3)))
    · rfl
    · simp only [Bool.and_eq_true, beq_iff_eq] at hx
      exact absurd (wdI_inj hx.1 hx.2.1 hx.2.2.1 hx.2.2.2) h

theorem eq_sets (s t : BS) (w : World) : (Op.equalIn 10000 29 (.agg #[.int .u64 (wdI s 0), .int .u64 (wdI s 1), .int .u64 (wdI s 2), .int .u64 (wdI s 3)]) (.agg #[.int .u64 (wdI t 0), .int .u64 (wdI t 1), .int .u64 (wdI t 2), .int .u64 (wdI t 3)])).run Tryd.prog w = .ok (s == t) w := by
  rw [← vset_beq]; exact eq_words 9998 _ _ _ _ _ _ _ _ w

end Go.Proofs.YtegmoeeeomjkgaaDoor
end
section
namespace Go.Proofs.YtegmoeeeomjkgaaDoor
open Go Go.RowKit

set_option maxRecDepth 100000 in
set_option maxHeartbeats 1000000 in
theorem within_any (s t : BS) (w : World) : Calls Tryd.prog 30 #[vset s, vset t] w fun e w' => e = .returned (.bool (s &&& t == s)) ∧ Below w.heap.size w w' := by
  unfold vset
  have HE := eq_sets (s &&& t) s
  go_enter Tryd.func30, Tryd.ntmps30
  have hb := (Blk.new w 29 #[.int .u64 (wdI s 0), .int .u64 (wdI s 1), .int .u64 (wdI s 2), .int .u64 (wdI s 3)]).alloc (.cells #[.int .u64 (wdI t 0), .int .u64 (wdI t 1), .int .u64 (wdI t 2), .int .u64 (wdI t 3)] 29)
  go_wp2
  go_region_with (go_at_call 26; refine (meet_any s t _).mono ?_; rintro e w' ⟨rfl, hB⟩; have hb2 := Blk.below (B := w.heap.size) (Blk.drew hb) hB (by simp; omega); have c0 : w'.cell? ⟨w.heap.size, 0, none⟩ = some (.int .u64 (wdI s 0)) := hb2.cell 0; have c1 : w'.cell? ⟨w.heap.size, 1, none⟩ = some (.int .u64 (wdI s 1)) := hb2.cell 1; have c2 : w'.cell? ⟨w.heap.size, 2, none⟩ = some (.int .u64 (wdI s 2)) := hb2.cell 2; have c3 : w'.cell? ⟨w.heap.size, 3, none⟩ = some (.int .u64 (wdI s 3)) := hb2.cell 3; unfold vset)
  all_goals go_wp2
  all_goals go_ret
  all_goals exact ⟨rfl, below_drew_trans (((Below.refl _ w).alloc (Nat.le_refl _) _).alloc (by simp) _) (by assumption)⟩

end Go.Proofs.YtegmoeeeomjkgaaDoor
end
section
namespace Go.Proofs.YtegmoeeeomjkgaaDoor
open Go Go.RowKit Go.Shelf

set_option maxHeartbeats 400000 in
theorem num_any (e : Int) (w : World) : Calls Tryd.prog 14 #[.int .i64 e] w fun r w' => r = .returned (.int .i64 e) ∧ w = w' := by
  go_enter Tryd.func14, Tryd.ntmps14
  go_wp2
  go_ret
  exact ⟨rfl, rfl⟩

theorem bytes_any (s : BS) (w : World) : Calls Tryd.prog 32 #[vset s] w fun e w' => e = .returned (.func (.func 45) #[] #[.pointer (some ⟨w.heap.size, 0, none⟩)]) ∧ Below w.heap.size w w' :=
  (callsIn_wide.1 (bytes_in 6 s w)).mono fun _ _ ⟨a, b⟩ => ⟨a, by rw [b]; exact (Below.refl _ w).alloc (Nat.le_refl _) _⟩

theorem wk_make (w : World) : Calls Tryd.prog 11 #[.slice (some ⟨w.heap.size, 0, none⟩) 2 2] (w.alloc (.cells #[.int .u8 97, .int .u8 122, .int .u8 10, .int .u8 10] 26)) fun e w' => e = .returned (.tuple #[vset wset, .int .i64 0]) ∧ Below w.heap.size w w' := by
  have h := make_any (some ⟨w.heap.size, 0, none⟩) 2 [(97, 122), (10, 10)] (w.alloc (.cells #[.int .u8 97, .int .u8 122, .int .u8 10, .int .u8 10] 26)) (by
    intro i x hx
    have hb := Blk.new w 26 #[.int .u8 97, .int .u8 122, .int .u8 10, .int .u8 10]
    have hi := (List.getElem?_eq_some_iff.1 hx).1
    have : i = 0 ∨ i = 1 := by simp at hi; omega
    rcases this with rfl | rfl
    · simp at hx; subst hx
      exact ⟨_, 0, rfl, hb.cell 0, hb.cell 1⟩
    · simp at hx; subst hx
      exact ⟨_, 0, rfl, hb.cell 2, hb.cell 3⟩) (by intro x hx; simp at hx; rcases hx with rfl | rfl <;> decide) (by decide)
  rw [w_make] at h
  exact h.mono fun _ _ ⟨a, b⟩ => ⟨a, ((Below.refl _ w).alloc (Nat.le_refl _) _).trans (b.mono (by simp))⟩

theorem wk_read (w : World) (hG : Glob w) : Calls Tryd.prog 36 #[.string ⟨#[91, 92, 110, 97, 45, 122, 93]⟩] w fun e w' => e = .returned (.tuple #[vset wset, .int .i64 0]) ∧ Below w.heap.size w w' := by
  have h := read_any ⟨#[91, 92, 110, 97, 45, 122, 93]⟩ (by decide) w hG
  rw [show (⟨#[91, 92, 110, 97, 45, 122, 93]⟩ : ByteArray).data.toList = [91, 92, 110, 97, 45, 122, 93] from rfl, w_read] at h
  exact h
theorem wk_bad (w : World) (hG : Glob w) : Calls Tryd.prog 36 #[.string ⟨#[91, 122, 45, 97, 93]⟩] w fun e w' => e = .returned (.tuple #[.agg #[.int .u64 0, .int .u64 0, .int .u64 0, .int .u64 0], .int .i64 120]) ∧ Below w.heap.size w w' := by
  have h := read_any ⟨#[91, 122, 45, 97, 93]⟩ (by decide) w hG
  rw [show (⟨#[91, 122, 45, 97, 93]⟩ : ByteArray).data.toList = [91, 122, 45, 97, 93] from rfl, w_bad] at h
  exact h
theorem wk_text (w : World) (hG : Glob w) : Calls Tryd.prog 38 #[vset wset] w fun e w' => e = .returned (.string ⟨#[91, 92, 110, 97, 45, 122, 93]⟩) ∧ Below w.heap.size w w' := by
  have h := text_any wset w hG
  rw [w_text] at h
  exact h
theorem wk_count (w : World) : Calls Tryd.prog 31 #[vset wset] w fun e w' => e = .returned (.int .i64 27) ∧ Below w.heap.size w w' := by
  have h := count_any wset w
  rw [w_count] at h
  exact h
theorem wk_q (w : World) : Calls Tryd.prog 16 #[vset wset, .int .u8 113] w fun e w' => e = .returned (.bool true) ∧ Below w.heap.size w w' := by
  have h := has_any wset 113 (by decide) w
  rw [w_q] at h
  exact h
theorem wk_Q (w : World) : Calls Tryd.prog 16 #[vset wset, .int .u8 81] w fun e w' => e = .returned (.bool false) ∧ Below w.heap.size w w' := by
  have h := has_any wset 81 (by decide) w
  rw [w_Q] at h
  exact h

theorem neq_func (a : Value) (w : World) : (binOp .neq 55 (.func (.func 45) #[] #[a]) .nilFunc).run Tryd.prog w = .ok (.bool true) w := by
  kernel_rfl

set_option maxRecDepth 100000 in
set_option maxHeartbeats 4000000 in
theorem works_any (w : World) (hG : Glob w) : Calls Tryd.prog 10 #[] w fun e w' => e = .returned (.bool true) ∧ Below w.heap.size w w' := by
  have HG := Lib.hid hG
  clear hG
  have HE := eq_sets wset wset
  have HF := neq_func
  have hw0 : wset = wset := rfl
  clear hw0
  generalize hW : wset = W at HE
  have K1 := wk_make; have K2 := wk_read; have K3 := wk_bad; have K4 := wk_text; have K5 := wk_count; have K6 := wk_q; have K7 := wk_Q
  rw [hW] at K1 K2 K4 K5 K6 K7
  replace K1 := Lib.hid K1; replace K2 := Lib.hid K2; replace K3 := Lib.hid K3; replace K4 := Lib.hid K4; replace K5 := Lib.hid K5; replace K6 := Lib.hid K6; replace K7 := Lib.hid K7
  have K8 := Lib.hid (bytes_any W)
  clear hW
  go_enter Tryd.func10, Tryd.ntmps10
  go_wp2_with fail
  refine (K1.out _).mono ?_
  rintro e w1 ⟨rfl, hB1⟩
  clear K1
  have HB1 := Lib.hid hB1
  clear hB1
  unfold vset
  go_wp2_with fail
  have HA1 : Hid (Below w.heap.size w (w1.alloc (.cells #[.int .u64 (wdI W 0), .int .u64 (wdI W 1), .int .u64 (wdI W 2), .int .u64 (wdI W 3)] 29))) := HB1.out.alloc HB1.out.size _
  refine (K2.out _ (HG.out.below (Nat.le_refl _) HA1.out)).mono ?_
  rintro e w2 ⟨rfl, hB2⟩
  have bA2 := Lib.hid ((Blk.new w1 29 (cset W)).below hB2 (by simp))
  have HA2 := Lib.hid (HA1.out.trans (hB2.mono HA1.out.size))
  clear HA1 hB2 K2 HB1
  unfold vset
  go_wp2_with fail
  have HA3 : Hid (Below w.heap.size w (w2.alloc (.cells #[.int .u64 (wdI W 0), .int .u64 (wdI W 1), .int .u64 (wdI W 2), .int .u64 (wdI W 3)] 29))) := HA2.out.alloc HA2.out.size _
  refine (K3.out _ (HG.out.below (Nat.le_refl _) HA3.out)).mono ?_
  rintro e w3 ⟨rfl, hB3⟩
  have bA3 := Lib.hid ((bA2.out.alloc (.cells #[.int .u64 (wdI W 0), .int .u64 (wdI W 1), .int .u64 (wdI W 2), .int .u64 (wdI W 3)] 29)).below hB3 (by have := bA2.out.lt; simp; omega))
  have bB3 := Lib.hid ((Blk.new w2 29 (cset W)).below hB3 (by simp))
  have HA4 := Lib.hid (HA3.out.trans (hB3.mono HA3.out.size))
  have hlt3 : w1.heap.size < w3.heap.size := bA3.out.lt
  clear HA2 HA3 hB3 K3 bA2
  have a0 : ∀ o, (w3.alloc o).cell? ⟨w1.heap.size, 0, none⟩ = some (.int .u64 (wdI W 0)) := fun o => (Blk.alloc bA3.out o).cell 0
  have a1 : ∀ o, (w3.alloc o).cell? ⟨w1.heap.size, 1, none⟩ = some (.int .u64 (wdI W 1)) := fun o => (Blk.alloc bA3.out o).cell 1
  have a2 : ∀ o, (w3.alloc o).cell? ⟨w1.heap.size, 2, none⟩ = some (.int .u64 (wdI W 2)) := fun o => (Blk.alloc bA3.out o).cell 2
  have a3 : ∀ o, (w3.alloc o).cell? ⟨w1.heap.size, 3, none⟩ = some (.int .u64 (wdI W 3)) := fun o => (Blk.alloc bA3.out o).cell 3
  have b0 : ∀ o, (w3.alloc o).cell? ⟨w2.heap.size, 0, none⟩ = some (.int .u64 (wdI W 0)) := fun o => (Blk.alloc bB3.out o).cell 0
  have b1 : ∀ o, (w3.alloc o).cell? ⟨w2.heap.size, 1, none⟩ = some (.int .u64 (wdI W 1)) := fun o => (Blk.alloc bB3.out o).cell 1
  have b2 : ∀ o, (w3.alloc o).cell? ⟨w2.heap.size, 2, none⟩ = some (.int .u64 (wdI W 2)) := fun o => (Blk.alloc bB3.out o).cell 2
  have b3 : ∀ o, (w3.alloc o).cell? ⟨w2.heap.size, 3, none⟩ = some (.int .u64 (wdI W 3)) := fun o => (Blk.alloc bB3.out o).cell 3
  go_wp2_with (first | (go_at_call 14; refine (num_any _ _).mono ?_; rintro e w' ⟨rfl, rfl⟩) | fail)
  have HA5 : Hid (Below w.heap.size w (w3.alloc (.cells #[.int .u64 0, .int .u64 0, .int .u64 0, .int .u64 0] 29))) := HA4.out.alloc HA4.out.size _
  have bA4 := Lib.hid (bA3.out.alloc (.cells #[.int .u64 0, .int .u64 0, .int .u64 0, .int .u64 0] 29))
  clear bA3 bB3 b0 b1 b2 b3 a0 a1 a2 a3
  refine (K4.out _ (HG.out.below (Nat.le_refl _) HA5.out)).mono ?_
  rintro e w4 ⟨rfl, hB0⟩
  have bA5 := Lib.hid (bA4.out.below hB0 bA4.out.lt)
  have HA6 := Lib.hid (HA5.out.trans (hB0.mono HA5.out.size))
  clear hB0 bA4 HA5 K4
  have a0 : w4.cell? ⟨w1.heap.size, 0, none⟩ = some (.int .u64 (wdI W 0)) := Blk.cell bA5.out 0
  have a1 : w4.cell? ⟨w1.heap.size, 1, none⟩ = some (.int .u64 (wdI W 1)) := Blk.cell bA5.out 1
  have a2 : w4.cell? ⟨w1.heap.size, 2, none⟩ = some (.int .u64 (wdI W 2)) := Blk.cell bA5.out 2
  have a3 : w4.cell? ⟨w1.heap.size, 3, none⟩ = some (.int .u64 (wdI W 3)) := Blk.cell bA5.out 3
  go_wp2_with (first | (go_at_call 14; refine (num_any _ _).mono ?_; rintro e w' ⟨rfl, rfl⟩) | fail)
  refine (K5.out _).mono ?_
  rintro e w5 ⟨rfl, hB1⟩
  have bA6 := Lib.hid (bA5.out.below hB1 bA5.out.lt)
  have HA7 := Lib.hid (HA6.out.trans (hB1.mono HA6.out.size))
  clear hB1 bA5 HA6 K5
  clear a0 a1 a2 a3
  have a0 : w5.cell? ⟨w1.heap.size, 0, none⟩ = some (.int .u64 (wdI W 0)) := Blk.cell bA6.out 0
  have a1 : w5.cell? ⟨w1.heap.size, 1, none⟩ = some (.int .u64 (wdI W 1)) := Blk.cell bA6.out 1
  have a2 : w5.cell? ⟨w1.heap.size, 2, none⟩ = some (.int .u64 (wdI W 2)) := Blk.cell bA6.out 2
  have a3 : w5.cell? ⟨w1.heap.size, 3, none⟩ = some (.int .u64 (wdI W 3)) := Blk.cell bA6.out 3
  go_wp2_with (first | (go_at_call 14; refine (num_any _ _).mono ?_; rintro e w' ⟨rfl, rfl⟩) | fail)
  refine (K6.out _).mono ?_
  rintro e w6 ⟨rfl, hB2⟩
  have bA7 := Lib.hid (bA6.out.below hB2 bA6.out.lt)
  have HA8 := Lib.hid (HA7.out.trans (hB2.mono HA7.out.size))
  clear hB2 bA6 HA7 K6
  clear a0 a1 a2 a3
  have a0 : w6.cell? ⟨w1.heap.size, 0, none⟩ = some (.int .u64 (wdI W 0)) := Blk.cell bA7.out 0
  have a1 : w6.cell? ⟨w1.heap.size, 1, none⟩ = some (.int .u64 (wdI W 1)) := Blk.cell bA7.out 1
  have a2 : w6.cell? ⟨w1.heap.size, 2, none⟩ = some (.int .u64 (wdI W 2)) := Blk.cell bA7.out 2
  have a3 : w6.cell? ⟨w1.heap.size, 3, none⟩ = some (.int .u64 (wdI W 3)) := Blk.cell bA7.out 3
  go_wp2_with (first | (go_at_call 14; refine (num_any _ _).mono ?_; rintro e w' ⟨rfl, rfl⟩) | fail)
  refine (K7.out _).mono ?_
  rintro e w7 ⟨rfl, hB3⟩
  have bA8 := Lib.hid (bA7.out.below hB3 bA7.out.lt)
  have HA9 := Lib.hid (HA8.out.trans (hB3.mono HA8.out.size))
  clear hB3 bA7 HA8 K7
  clear a0 a1 a2 a3
  have a0 : w7.cell? ⟨w1.heap.size, 0, none⟩ = some (.int .u64 (wdI W 0)) := Blk.cell bA8.out 0
  have a1 : w7.cell? ⟨w1.heap.size, 1, none⟩ = some (.int .u64 (wdI W 1)) := Blk.cell bA8.out 1
  have a2 : w7.cell? ⟨w1.heap.size, 2, none⟩ = some (.int .u64 (wdI W 2)) := Blk.cell bA8.out 2
  have a3 : w7.cell? ⟨w1.heap.size, 3, none⟩ = some (.int .u64 (wdI W 3)) := Blk.cell bA8.out 3
  go_wp2_with (first | (go_at_call 14; refine (num_any _ _).mono ?_; rintro e w' ⟨rfl, rfl⟩) | fail)
  refine (K8.out _).mono ?_
  rintro e w8 ⟨rfl, hB4⟩
  have bA9 := Lib.hid (bA8.out.below hB4 bA8.out.lt)
  have HA10 := Lib.hid (HA9.out.trans (hB4.mono HA9.out.size))
  clear hB4 bA8 HA9 K8
  go_wp2
  go_ret
  exact ⟨rfl, HA10.out⟩
end Go.Proofs.YtegmoeeeomjkgaaDoor
end
section
namespace Go.Proofs.YtegmoeeeomjkgaaDoor
open Go Go.RowKit Go.Vals

section
variable {o : Oper} {ρ : Operand → Value} {w : World}

theorem ex_load {x : Operand} {n : Nat} {z : BS} (ho : o.op = .load 29 x) (hx : ρ x = .pointer (some ⟨n, 0, none⟩)) (hb : Blk w n 29 (cset z)) : (execOp ρ o).run Tryd.prog w = .ok (.value (vset z)) w := by
  have c0 := hb.cell 0
  have c1 := hb.cell 1
  have c2 := hb.cell 2
  have c3 := hb.cell 3
  unfold cset at c0 c1 c2 c3
  simp only [List.getElem?_toArray, List.getElem?_cons_zero, List.getElem?_cons_succ] at c0 c1 c2 c3
  unfold execOp vset
  rw [ho]
  simp only [hx]
  go_simp

theorem ex_eq {x y : Operand} {ty : TypeId} {s t : BS} (ho : o.op = .binOp .eql 29 x y ty) (hx : ρ x = vset s) (hy : ρ y = vset t) : (execOp ρ o).run Tryd.prog w = .ok (.value (.bool (s == t))) w := by
  have h := eq_sets s t
  unfold vset at hx hy
  unfold execOp
  rw [ho]
  simp only [hx, hy]
  go_simp

theorem ex_eqB {x y : Operand} {ty : TypeId} {s t : Bool} (ho : o.op = .binOp .eql 4 x y ty) (hx : ρ x = .bool s) (hy : ρ y = .bool t) : (execOp ρ o).run Tryd.prog w = .ok (.value (.bool (s == t))) w := by
  unfold execOp
  rw [ho]
  simp only [hx, hy]
  cases s <;> cases t <;> kernel_rfl
theorem ex_eqT {x y : Operand} {ty : TypeId} {s t : BS} {r : Bool} (ho : o.op = .binOp .eql 29 x y ty) (hx : ρ x = vset s) (hy : ρ y = vset t) (h : (s == t) = r) : (execOp ρ o).run Tryd.prog w = .ok (.value (.bool r)) w := by
  rw [ex_eq ho hx hy, h]
theorem ex_eqBT {x y : Operand} {ty : TypeId} {s t r : Bool} (ho : o.op = .binOp .eql 4 x y ty) (hx : ρ x = .bool s) (hy : ρ y = .bool t) (h : (s == t) = r) : (execOp ρ o).run Tryd.prog w = .ok (.value (.bool r)) w := by
  rw [ex_eqB ho hx hy, h]

def cells3 (a b c : BS) : Array Value := #[.int .u64 (wdI a 0), .int .u64 (wdI a 1), .int .u64 (wdI a 2), .int .u64 (wdI a 3), .int .u64 (wdI b 0), .int .u64 (wdI b 1), .int .u64 (wdI b 2), .int .u64 (wdI b 3), .int .u64 (wdI c 0), .int .u64 (wdI c 1), .int .u64 (wdI c 2), .int .u64 (wdI c 3)]
theorem ex_slice3 {x y z : Operand} {a b c : BS} (ho : o.op = .buildSlice 43 3 #[(0, x), (1, y), (2, z)]) (hx : ρ x = vset a) (hy : ρ y = vset b) (hz : ρ z = vset c) :
    (execOp ρ o).run Tryd.prog w = .ok (.value (.slice (some ⟨w.heap.size, 0, none⟩) 3 3)) (w.alloc (.cells (cells3 a b c) 29)) := by
  unfold vset at hx hy hz
  unfold execOp cells3
  rw [ho]
  simp only [hx, hy, hz]
  go_simp
end

def JC (x y z : BS) : Prop := ∀ w, Calls Tryd.prog 40 #[vset x, vset y] w fun e w' => e = .returned (vset z) ∧ Below w.heap.size w w'
def MC (x y z : BS) : Prop := ∀ w, Calls Tryd.prog 26 #[vset x, vset y] w fun e w' => e = .returned (vset z) ∧ Below w.heap.size w w'
def WC (x y z : BS) : Prop := ∀ w, Calls Tryd.prog 28 #[vset x, vset y] w fun e w' => e = .returned (vset z) ∧ Below w.heap.size w w'
def IC (x y : BS) (p : Bool) : Prop := ∀ w, Calls Tryd.prog 30 #[vset x, vset y] w fun e w' => e = .returned (.bool p) ∧ Below w.heap.size w w'
theorem jcE {x y z : BS} (h : x ||| y = z) : JC x y z := fun w => by rw [← h]; exact join_any x y w
theorem mcE {x y z : BS} (h : x &&& y = z) : MC x y z := fun w => by rw [← h]; exact meet_any x y w
theorem wcE {x y z : BS} (h : x &&& ~~~y = z) : WC x y z := fun w => by rw [← h]; exact without_any x y w
theorem icE {x y : BS} {p : Bool} (h : (x &&& y == x) = p) : IC x y p := fun w => by rw [← h]; exact within_any x y w
theorem u3_call {a b c : BS} {W : World} {x : Value} (h : ∃ n, x = .slice (some ⟨n, 0, none⟩) 3 3 ∧ Blk W n 29 (cells3 a b c)) : Calls Tryd.prog 20 #[x] W fun e w' => e = .returned (vset (a ||| (b ||| c))) ∧ Below W.heap.size W w' := by
  obtain ⟨n, rfl, hb⟩ := h
  have h := union_any (some ⟨n, 0, none⟩) 3 [a, b, c] W (rowB_three hb) (by simp)
  have e : unionL [a, b, c] = a ||| (b ||| c) := by simp [unionL, BitVec.or_assoc]
  rw [e] at h
  exact h

theorem bs_trans (a b c : BS) (h1 : a &&& b = a) (h2 : b &&& c = b) : a &&& c = a := by
  rw [← h1, BitVec.and_assoc, h2]

theorem bs_ext {x y : BS} (h : ∀ j, j < 256 → x.getLsbD j = y.getLsbD j) : x = y := BitVec.eq_of_getLsbD_eq h
/-- The three boxes of the law, and what lay before. -/
def St (w W : World) (a b c : BS) : Prop := Below w.heap.size w W ∧ Blk W w.heap.size 29 (cset a) ∧ Blk W (w.heap.size + 1) 29 (cset b) ∧ Blk W (w.heap.size + 1 + 1) 29 (cset c)

theorem St.next {w W W' : World} {a b c : BS} (h : St w W a b c) (hB : Below W.heap.size W W') : St w W' a b c :=
  ⟨h.1.trans (hB.mono h.1.size), h.2.1.below hB h.2.1.lt, h.2.2.1.below hB h.2.2.1.lt, h.2.2.2.below hB h.2.2.2.lt⟩
/-- The law's own world: its three boxes. -/
theorem st_start (w : World) (a b c : BS) : St w (((w.alloc (.cells (cset a) 29)).alloc (.cells (cset b) 29)).alloc (.cells (cset c) 29)) a b c := by
  refine ⟨(((Below.refl _ w).alloc (Nat.le_refl _) _).alloc (by simp) _).alloc (by simp; omega) _, ?_, ?_, ?_⟩
  · exact ((Blk.new w 29 _).alloc _).alloc _
  · have h := (Blk.new (w.alloc (.cells (cset a) 29)) 29 (cset b)).alloc (.cells (cset c) 29)
    rw [World.size_alloc] at h; exact h
  · have h := Blk.new ((w.alloc (.cells (cset a) 29)).alloc (.cells (cset b) 29)) 29 (cset c)
    rw [World.size_alloc, World.size_alloc] at h; exact h

theorem St.drew {w W : World} {a b c : BS} (h : St w W a b c) : St w W.drew a b c := ⟨h.1.drew, h.2.1, h.2.2.1, h.2.2.2⟩

end Go.Proofs.YtegmoeeeomjkgaaDoor
end
section
namespace Go.Proofs.YtegmoeeeomjkgaaDoor
open Go Go.RowKit

/-- A list in memory of its own, one element more behind it. -/
def Sent (B : Nat) (e : TypeId) (size : Nat) (xs last : List Value) (n g c : Nat) (w : World) : Prop :=
  w.ownsRow B e size (.slice (some ⟨g, 0, none⟩) (n + 1) c) (n + 1) (xs ++ last) ∧ n + 1 ≤ c

theorem Sent.of {B size n : Nat} {e : TypeId} {xs last : List Value} {v : Value} {w : World} (h : w.ownsRow B e size v (n + 1) (xs ++ last)) :
    ∃ g c, v = .slice (some ⟨g, 0, none⟩) (n + 1) c ∧ Sent B e size xs last n g c w := by
  have h0 := h
  rcases h.2 with ⟨_, h1⟩ | ⟨g, cap, cur, rfl, _, _, h1, _⟩
  · omega
  · exact ⟨g, cap, rfl, h0, h1⟩

theorem Sent.below {B size n g c m : Nat} {e : TypeId} {xs last : List Value} {w w' : World} (h : Sent B e size xs last n g c w) (hB : Below m w w') (hm : w.heap.size ≤ m) : Sent B e size xs last n g c w' :=
  ⟨own_below h.1 hB hm, h.2⟩
theorem Sent.cells {B size n g c : Nat} {e : TypeId} {xs last : List Value} {w : World} (h : Sent B e size xs last n g c w) (j : Nat) (hj : j < (n + 1) * size) : w.cell? ⟨g, j, none⟩ = (xs ++ last)[j]? := h.1.cellAt j hj
theorem Sent.lt {B size n g c : Nat} {e : TypeId} {xs last : List Value} {w : World} (h : Sent B e size xs last n g c w) : g < w.heap.size := by
  rcases h.1.2 with ⟨h1, _⟩ | ⟨g', cap, cur, h1, _, h2, _⟩
  · cases h1
  · cases h1; exact (Array.getElem?_eq_some_iff.1 h2).1

/-- Bytes' cells. -/
def cellsY (l : List Nat) : List Value := l.map byteV

theorem add_zero_off (b off j : Nat) : (⟨b, off, none⟩ : Addr).add j = ⟨b, off + j, none⟩ := by
  unfold Addr.add; split
  · next h => rw [h]; rfl
  · rfl

theorem news_R {w : World} {ad : Addr} {rs : List (Nat × Nat)} (hd : RowR w (some ad) rs) : ∀ j u, (cellsR rs)[j]? = some u → w.cell? (ad.add j) = some u := by
  intro j u hu
  have hj : j < rs.length * 2 := by
    have := (List.getElem?_eq_some_iff.1 hu).1
    rwa [cellsR_length] at this
  have hi : j / 2 < rs.length := by omega
  obtain ⟨b, off, hab, h1, h2⟩ := hd (j / 2) rs[j / 2] (List.getElem?_eq_getElem hi)
  cases hab
  obtain ⟨k1, k2⟩ := cellsR_at rs (j / 2) rs[j / 2] (List.getElem?_eq_getElem hi)
  rw [add_zero_off]
  rcases (by omega : j % 2 = 0 ∨ j % 2 = 1) with h | h
  · have e : j = j / 2 * 2 := by omega
    rw [← e] at h1 k1
    rw [h1, ← k1, hu]
  · have e : j = j / 2 * 2 + 1 := by omega
    have e2 : off + j / 2 * 2 + 1 = off + j := by omega
    rw [e2] at h2
    rw [← e] at k2
    rw [h2, ← k2, hu]

theorem news_Y {w : World} {ad : Addr} {l : List Nat} (hd : RowY w (some ad) l) : ∀ j u, (cellsY l)[j]? = some u → w.cell? (ad.add j) = some u := by
  intro j u hu
  unfold cellsY at hu
  rw [List.getElem?_map] at hu
  cases hx : l[j]? with
  | none => rw [hx] at hu; cases hu
  | some x =>
    rw [hx] at hu
    obtain ⟨b, off, hab, h1⟩ := hd j x hx
    cases hab
    rw [add_zero_off, h1]
    simpa [byteV] using hu

theorem one_R (rs : List (Nat × Nat)) : ∀ u ∈ cellsR rs, u.oneCell' = true := by
  intro u hu
  unfold cellsR at hu
  obtain ⟨x, _, hx⟩ := List.mem_flatMap.1 hu
  simp at hx
  rcases hx with rfl | rfl <;> rfl
theorem one_Y (l : List Nat) : ∀ u ∈ cellsY l, u.oneCell' = true := by
  intro u hu
  unfold cellsY at hu
  obtain ⟨x, _, rfl⟩ := List.mem_map.1 hu
  rfl

theorem Sent.rowR {B n g c : Nat} {last : List Value} {rs : List (Nat × Nat)} {w : World} (h : Sent B 26 2 (cellsR rs) last n g c w) (hn : n = rs.length) : RowR w (some ⟨g, 0, none⟩) rs := by
  intro i x hx
  have hi := (List.getElem?_eq_some_iff.1 hx).1
  obtain ⟨k1, k2⟩ := cellsR_at rs i x hx
  refine ⟨g, 0, rfl, ?_, ?_⟩
  · rw [Nat.zero_add, h.cells _ (by omega), List.getElem?_append_left (by rw [cellsR_length]; omega), k1]
  · rw [Nat.zero_add, h.cells _ (by omega), List.getElem?_append_left (by rw [cellsR_length]; omega), k2]
theorem Sent.rowY {B n g c : Nat} {last : List Value} {l : List Nat} {w : World} (h : Sent B 5 1 (cellsY l) last n g c w) (hn : n = l.length) : RowY w (some ⟨g, 0, none⟩) l := by
  intro i x hx
  have hi := (List.getElem?_eq_some_iff.1 hx).1
  refine ⟨g, 0, rfl, ?_⟩
  rw [Nat.zero_add, h.cells _ (by omega), List.getElem?_append_left (by unfold cellsY; simp; omega)]
  unfold cellsY
  rw [List.getElem?_map, hx]; rfl

theorem le_alloc {n : Nat} {w : World} (h : n ≤ w.heap.size) (o : Obj) : n ≤ (w.alloc o).heap.size := by simp; omega

theorem row_none_R {w : World} {rs : List (Nat × Nat)} (h : RowR w none rs) : rs = [] := by
  cases rs with
  | nil => rfl
  | cons x r => obtain ⟨b, off, e, _⟩ := h 0 x rfl; cases e
theorem row_none_Y {w : World} {l : List Nat} (h : RowY w none l) : l = [] := by
  cases l with
  | nil => rfl
  | cons x r => obtain ⟨b, off, e, _⟩ := h 0 x rfl; cases e
end Go.Proofs.YtegmoeeeomjkgaaDoor
end
section
namespace Go.Proofs.YtegmoeeeomjkgaaDoor
open Go.RowKit Go.Deep Go.ChangeShapes Go.WideShapes

theorem cellsOf26 : Tryd.prog.cellsOf 26 = 2 := by kernel_rfl
theorem cellsOf5 : Tryd.prog.cellsOf 5 = 1 := by kernel_rfl
theorem cellsOf29 : Tryd.prog.cellsOf 29 = 4 := by kernel_rfl

theorem u8_nat {n : Int} (h : (Lit.int .u8 n).wf = true) : ∃ x : Nat, n = x ∧ x < 256 := by
  have h0 : IntKind.u8.min = 0 := by decide
  have h1 : IntKind.u8.max = 255 := by decide
  simp [Lit.wf] at h
  refine ⟨n.toNat, ?_, ?_⟩ <;> omega
theorem u64_rng {n : Int} (h : (Lit.int .u64 n).wf = true) : 0 ≤ n ∧ n < 18446744073709551616 := by
  have h0 : IntKind.u64.min = 0 := by decide
  have h1 : IntKind.u64.max = 18446744073709551615 := by decide
  simp [Lit.wf] at h
  omega

variable {H : Type} {enc : TypeId × Value → H} {w : World} {base : Nat} {spare : Nat → Bool} {held : Bool}

theorem open_u8 {fuel : Nat} {cs : List Value} {x : DataW H × List MemPlace} (h : DataW.trod enc Tryd.prog w base spare held fuel 5 cs = some x) : ∃ n : Nat, cs = [.int .u8 n] ∧ n < 256 := by
  obtain ⟨n, e, _, hw⟩ := DataW.trod_int Tryd.underlying5 h
  obtain ⟨m, rfl, hm⟩ := u8_nat hw
  exact ⟨m, e, hm⟩

set_option maxRecDepth 100000 in
/-- A range that reads as data. -/
theorem rg_open {fuel : Nat} {cs : List Value} {x : DataW H × List MemPlace} (h : DataW.trod enc Tryd.prog w base spare held fuel 26 cs = some x) :
    ∃ r : Nat × Nat, cs = [.int .u8 r.1, .int .u8 r.2] ∧ r.1 < 256 ∧ r.2 < 256 := by
  obtain ⟨y0, y1, n, _, hl, h0, h1⟩ := trod_struct2 Tryd.underlying26 h
  rw [cellsOf26] at hl
  match cs, hl with
  | [a, b], _ =>
    simp only [cellsOf5, List.drop_zero, List.take_succ_cons, List.take_zero, List.drop_succ_cons] at h0 h1
    obtain ⟨f, e0, hf⟩ := open_u8 h0
    obtain ⟨t, e1, ht⟩ := open_u8 h1
    simp at e0 e1
    subst e0 e1
    exact ⟨(f, t), rfl, hf, ht⟩

theorem cells_two {a : Addr} {x y : Value} (h : w.cells? base a 2 = some [x, y]) : w.cell? a = some x ∧ w.cell? (a.add 1) = some y := by
  unfold World.cells? at h
  split at h
  · have : List.range 2 = [0, 1] := rfl
    rw [this] at h
    simp only [List.mapM_cons, List.mapM_nil] at h
    have ha : a.add 0 = a := rfl
    rw [ha] at h
    cases h0 : w.cell? a with
    | none => rw [h0] at h; cases h
    | some x' =>
      cases h1 : w.cell? (a.add 1) with
      | none => rw [h0, h1] at h; cases h
      | some y' =>
        rw [h0, h1] at h
        cases h
        exact ⟨rfl, rfl⟩
  · cases h
theorem cells_one {a : Addr} {x : Value} (h : w.cells? base a 1 = some [x]) : w.cell? a = some x := by
  unfold World.cells? at h
  split at h
  · have : List.range 1 = [0] := rfl
    rw [this] at h
    simp only [List.mapM_cons, List.mapM_nil] at h
    have ha : a.add 0 = a := rfl
    rw [ha] at h
    cases h0 : w.cell? a with
    | none => rw [h0] at h; cases h
    | some x' => rw [h0] at h; cases h; rfl
  · cases h
theorem cells_four {a : Addr} {x y z u : Value} (h : w.cells? base a 4 = some [x, y, z, u]) : w.cell? a = some x ∧ w.cell? (a.add 1) = some y ∧ w.cell? (a.add 2) = some z ∧ w.cell? (a.add 3) = some u := by
  unfold World.cells? at h
  split at h
  · have : List.range 4 = [0, 1, 2, 3] := rfl
    rw [this] at h
    simp only [List.mapM_cons, List.mapM_nil] at h
    have ha : a.add 0 = a := rfl
    rw [ha] at h
    cases h0 : w.cell? a with
    | none => rw [h0] at h; cases h
    | some x' =>
      cases h1 : w.cell? (a.add 1) with
      | none => rw [h0, h1] at h; cases h
      | some y' =>
        cases h2 : w.cell? (a.add 2) with
        | none => rw [h0, h1, h2] at h; cases h
        | some z' =>
          cases h3 : w.cell? (a.add 3) with
          | none => rw [h0, h1, h2, h3] at h; cases h
          | some u' =>
            rw [h0, h1, h2, h3] at h
            cases h
            exact ⟨rfl, rfl, rfl, rfl⟩
  · cases h

theorem add_add0 (a : Addr) (i j : Nat) : (a.add i).add j = a.add (i + j) := by
  unfold Addr.add
  by_cases hi : i = 0 <;> by_cases hj : j = 0 <;> simp [hi, hj, Nat.add_assoc]

/-- A slice of ranges that reads as data. -/
theorem rgs_open {fuel : Nat} {a : Option Addr} {len cap : Nat} {x : DataW H × List MemPlace} (h : DataW.trod enc Tryd.prog w base spare held fuel 22 [.slice a len cap] = some x) :
    ∃ d : List (Nat × Nat), d.length = len ∧ RowR w a d ∧ SmallR d ∧ len ≤ cap ∧ (a = none → cap = 0) := by
  rcases open_slice Tryd.underlying22 h with ⟨h0, _⟩ | ⟨a', len', cap', m, n, D, Pl, hcs, _, hl, hm, hmm, _, hel⟩
  · simp at h0
    obtain ⟨rfl, rfl, rfl⟩ := h0
    exact ⟨[], rfl, fun i x hx => by simp at hx, fun x hx => by simp at hx, Nat.le_refl _, fun _ => rfl⟩
  · simp at hcs
    obtain ⟨rfl, rfl, rfl⟩ := hcs
    have hlm : len ≤ m := by rw [hmm]; split <;> omega
    have hall : ∀ i, i < len → ∃ e : Nat × Nat, w.cell? (a'.add (i * 2)) = some (.int .u8 e.1) ∧ w.cell? ((a'.add (i * 2)).add 1) = some (.int .u8 e.2) ∧ e.1 < 256 ∧ e.2 < 256 := by
      intro i hi
      obtain ⟨cs', h1, h2⟩ := hel i (by omega)
      obtain ⟨e, rfl, e1, e2⟩ := rg_open h2
      rw [cellsOf26] at h1
      obtain ⟨k1, k2⟩ := cells_two h1
      exact ⟨e, k1, k2, e1, e2⟩
    obtain ⟨f, hf⟩ := choose_lt hall
    have hget : ∀ i x, ((List.range len).map f)[i]? = some x → i < len ∧ f i = x := by
      intro i x hx
      have hi : i < len := by
        have := (List.getElem?_eq_some_iff.1 hx).1
        simpa using this
      rw [List.getElem?_map, List.getElem?_range hi] at hx
      exact ⟨hi, by simpa using hx⟩
    refine ⟨(List.range len).map f, by simp, ?_, ?_, hl, fun e => by cases e⟩
    · intro i x hx
      obtain ⟨hi, hx'⟩ := hget i x hx
      obtain ⟨q0, q1, _⟩ := hf i hi
      rw [hx'] at q0 q1
      have hspot : a'.spot = none := by
        have := (hf 0 (by omega)).1
        have e0 : a'.add (0 * 2) = a' := rfl
        rw [e0] at this
        exact World.cell?_spot this
      obtain ⟨b, off, spot⟩ := a'
      simp only at hspot
      subst hspot
      rw [add_zero_off] at q0
      rw [add_add0, add_zero_off] at q1
      exact ⟨b, off, rfl, q0, by rw [Nat.add_assoc]; exact q1⟩
    · intro x hx
      obtain ⟨i, hi⟩ := List.mem_iff_getElem?.1 hx
      obtain ⟨hi', rfl⟩ := hget i x hi
      exact (hf i hi').2.2

/-- A slice of bytes that reads as data. -/
theorem bys_open {fuel : Nat} {a : Option Addr} {len cap : Nat} {x : DataW H × List MemPlace} (h : DataW.trod enc Tryd.prog w base spare held fuel 23 [.slice a len cap] = some x) :
    ∃ d : List Nat, d.length = len ∧ RowY w a d ∧ SmallY d ∧ len ≤ cap ∧ (a = none → cap = 0) := by
  rcases open_slice Tryd.underlying23 h with ⟨h0, _⟩ | ⟨a', len', cap', m, n, D, Pl, hcs, _, hl, hm, hmm, _, hel⟩
  · simp at h0
    obtain ⟨rfl, rfl, rfl⟩ := h0
    exact ⟨[], rfl, fun i x hx => by simp at hx, fun x hx => by simp at hx, Nat.le_refl _, fun _ => rfl⟩
  · simp at hcs
    obtain ⟨rfl, rfl, rfl⟩ := hcs
    have hlm : len ≤ m := by rw [hmm]; split <;> omega
    have hall : ∀ i, i < len → ∃ e : Nat, w.cell? (a'.add (i * 1)) = some (.int .u8 e) ∧ e < 256 := by
      intro i hi
      obtain ⟨cs', h1, h2⟩ := hel i (by omega)
      obtain ⟨e, rfl, e1⟩ := open_u8 h2
      rw [cellsOf5] at h1
      exact ⟨e, cells_one h1, e1⟩
    obtain ⟨f, hf⟩ := choose_lt hall
    have hget : ∀ i x, ((List.range len).map f)[i]? = some x → i < len ∧ f i = x := by
      intro i x hx
      have hi : i < len := by
        have := (List.getElem?_eq_some_iff.1 hx).1
        simpa using this
      rw [List.getElem?_map, List.getElem?_range hi] at hx
      exact ⟨hi, by simpa using hx⟩
    refine ⟨(List.range len).map f, by simp, ?_, ?_, hl, fun e => by cases e⟩
    · intro i x hx
      obtain ⟨hi, hx'⟩ := hget i x hx
      obtain ⟨q0, _⟩ := hf i hi
      rw [hx'] at q0
      have hspot : a'.spot = none := by
        have := (hf 0 (by omega)).1
        have e0 : a'.add (0 * 1) = a' := rfl
        rw [e0] at this
        exact World.cell?_spot this
      obtain ⟨b, off, spot⟩ := a'
      simp only at hspot
      subst hspot
      rw [add_zero_off, Nat.mul_one] at q0
      exact ⟨b, off, rfl, q0⟩
    · intro x hx
      obtain ⟨i, hi⟩ := List.mem_iff_getElem?.1 hx
      obtain ⟨hi', rfl⟩ := hget i x hi
      exact (hf i hi').2

end Go.Proofs.YtegmoeeeomjkgaaDoor
end
section
namespace Go.Proofs.YtegmoeeeomjkgaaDoor
open Go Go.RowKit Go.Vals

theorem conv_row (a : Option Addr) (c : Nat) (w : World) (l : List Nat) (hd : RowY w a l) (hc : a = none → c = 0) :
    (convert 23 9 (.slice a l.length c)).run Tryd.prog w = .ok (.string (bytesStr l)) w := by
  cases l with
  | nil =>
    cases a with
    | none => obtain rfl := hc rfl; kernel_rfl
    | some ad => kernel_rfl
  | cons x r =>
    obtain ⟨b, off, rfl, _⟩ := hd 0 x rfl
    obtain ⟨L, hL⟩ : ∃ L, L = x :: r := ⟨_, rfl⟩
    rw [← hL] at hd ⊢
    clear hL
    refine run_convert_bytes_arg w 23 5 Tryd.underlying23 Tryd.underlying5 b off L.length c (L.map fun n : Nat => (n : Int)) (by simp) ?_ 9 Tryd.underlying9
    intro i hi
    obtain ⟨b', off', e, h1⟩ := hd i L[i] (List.getElem?_eq_getElem hi)
    cases e
    rw [h1]
    simp [List.getD, hi]

section
variable {o : Oper} {ρ : Operand → Value} {w : World}

theorem ex_len22 {x : Operand} {a : Option Addr} {n c : Nat} (ho : o.op = .call { callee := .builtin .len, args := #[x], argTypes := #[22] }) (hx : ρ x = .slice a n c) : (execOp ρ o).run Tryd.prog w = .ok (.value (.int .i64 n)) w := by
  unfold execOp; rw [ho]; simp only [resolve, invoke, builtin, List.map_toArray, List.map_cons, List.map_nil, hx]; go_simp
theorem ex_len23 {x : Operand} {a : Option Addr} {n c : Nat} (ho : o.op = .call { callee := .builtin .len, args := #[x], argTypes := #[23] }) (hx : ρ x = .slice a n c) : (execOp ρ o).run Tryd.prog w = .ok (.value (.int .i64 n)) w := by
  unfold execOp; rw [ho]; simp only [resolve, invoke, builtin, List.map_toArray, List.map_cons, List.map_nil, hx]; go_simp
theorem ex_len43 {x : Operand} {a : Option Addr} {n c : Nat} (ho : o.op = .call { callee := .builtin .len, args := #[x], argTypes := #[43] }) (hx : ρ x = .slice a n c) : (execOp ρ o).run Tryd.prog w = .ok (.value (.int .i64 n)) w := by
  unfold execOp; rw [ho]; simp only [resolve, invoke, builtin, List.map_toArray, List.map_cons, List.map_nil, hx]; go_simp
theorem ex_add1 {x : Operand} {n : Nat} (ho : o.op = .binOp .add 3 x (.const (.int .i64 1)) 3) (hx : ρ x = .int .i64 n) (hy : ρ (.const (.int .i64 1)) = .int .i64 1) (hn : n ≤ 1000000) : (execOp ρ o).run Tryd.prog w = .ok (.value (.int .i64 ((n + 1 : Nat) : Int))) w := by
  unfold execOp; rw [ho]; simp only [hx, hy]
  have h0 : (0 : Int) ≤ n := by omega
  have h1 : (n : Int) ≤ 1000000 := by omega
  go_simp
  exact IntWalk.i64_in _ (by omega)

theorem ex_cut22 {x y : Operand} {g n m c : Nat} (ho : o.op = .slice 22 x none (some y) none) (hx : ρ x = .slice (some ⟨g, 0, none⟩) n c) (hy : ρ y = .int .i64 m) (hm : m ≤ c) : (execOp ρ o).run Tryd.prog w = .ok (.value (.slice (some ⟨g, 0, none⟩) m c)) w := by
  unfold execOp; rw [ho]; simp only [hx, hy, Option.map]
  have h0 : (0 : Int) ≤ m := by omega
  have h1 : (m : Int) ≤ c := by omega
  go_simp
theorem ex_cut23 {x y : Operand} {g n m c : Nat} (ho : o.op = .slice 23 x none (some y) none) (hx : ρ x = .slice (some ⟨g, 0, none⟩) n c) (hy : ρ y = .int .i64 m) (hm : m ≤ c) : (execOp ρ o).run Tryd.prog w = .ok (.value (.slice (some ⟨g, 0, none⟩) m c)) w := by
  unfold execOp; rw [ho]; simp only [hx, hy, Option.map]
  have h0 : (0 : Int) ≤ m := by omega
  have h1 : (m : Int) ≤ c := by omega
  go_simp
theorem ex_ix22 {x y : Operand} {g n m c : Nat} (ho : o.op = .indexAddr 22 x y) (hx : ρ x = .slice (some ⟨g, 0, none⟩) n c) (hy : ρ y = .int .i64 m) (hm : m < n) : (execOp ρ o).run Tryd.prog w = .ok (.value (.pointer (some ⟨g, m * 2, none⟩))) w := by
  unfold execOp; rw [ho]; simp only [hx, hy]
  have h0 : (0 : Int) ≤ m := by omega
  have h1 : (m : Int) < n := by omega
  go_simp
theorem ex_ix23 {x y : Operand} {g n m c : Nat} (ho : o.op = .indexAddr 23 x y) (hx : ρ x = .slice (some ⟨g, 0, none⟩) n c) (hy : ρ y = .int .i64 m) (hm : m < n) : (execOp ρ o).run Tryd.prog w = .ok (.value (.pointer (some ⟨g, m, none⟩))) w := by
  unfold execOp; rw [ho]; simp only [hx, hy]
  have h0 : (0 : Int) ≤ m := by omega
  have h1 : (m : Int) < n := by omega
  go_simp
theorem ex_fld26 {x : Operand} {g m : Nat} (ho : o.op = .fieldAddr 26 x 1) (hx : ρ x = .pointer (some ⟨g, m, none⟩)) : (execOp ρ o).run Tryd.prog w = .ok (.value (.pointer (some ⟨g, m + 1, none⟩))) w := by
  unfold execOp; rw [ho]; simp only [hx]
  go_simp
theorem ex_ld5 {x : Operand} {p : Addr} {v : Int} (ho : o.op = .load 5 x) (hx : ρ x = .pointer (some p)) (hc : w.cell? p = some (.int .u8 v)) : (execOp ρ o).run Tryd.prog w = .ok (.value (.int .u8 v)) w := by
  unfold execOp; rw [ho]; simp only [hx]
  go_simp
theorem ex_conv {x : Operand} {v r : Value} (ho : o.op = .convert 23 9 x) (hx : ρ x = v) (hc : (convert 23 9 v).run Tryd.prog w = .ok r w) : (execOp ρ o).run Tryd.prog w = .ok (.value r) w := by
  unfold execOp; rw [ho]; simp only [hx]
  go_simp
theorem ex_eqS {x y : Operand} {s : ByteArray} (ho : o.op = .binOp .eql 9 x y 9) (hx : ρ x = .string s) (hy : ρ y = .string s) : (execOp ρ o).run Tryd.prog w = .ok (.value (.bool true)) w := by
  unfold execOp; rw [ho]; simp only [hx, hy]
  go_simp
theorem ex_eqI {x y : Operand} {n : Int} (ho : o.op = .binOp .eql 3 x y 3) (hx : ρ x = .int .i64 n) (hy : ρ y = .int .i64 n) : (execOp ρ o).run Tryd.prog w = .ok (.value (.bool true)) w := by
  unfold execOp; rw [ho]; simp only [hx, hy]
  go_simp
theorem ex_widen {x : Operand} {n : Nat} (ho : o.op = .convert 5 3 x) (hx : ρ x = .int .u8 n) (hn : n < 256) : (execOp ρ o).run Tryd.prog w = .ok (.value (.int .i64 n)) w := by
  unfold execOp; rw [ho]; simp only [hx]
  have h0 : (0 : Int) ≤ n := by omega
  have h1 : (n : Int) < 256 := by omega
  go_simp
  exact IntWalk.i64_in _ (by omega)
end
theorem rnot_zero (w : World) : Calls Tryd.prog 19 #[.agg #[.int .u64 0, .int .u64 0, .int .u64 0, .int .u64 0]] w fun e w' => e = .returned (vset full) ∧ Below w.heap.size w w' := by
  rw [vset_zero]; exact rnot_any 0#256 w
end Go.Proofs.YtegmoeeeomjkgaaDoor
end
section
namespace Go.Proofs.YtegmoeeeomjkgaaDoor
open Go Go.RowKit

/-- Both's three kinds. -/
def KindF (kd : Int) (f : Bool → Bool → Bool) : Prop :=
  (kd = 0 ∧ ∀ x y, f x y = (x && y)) ∨ (kd = 1 ∧ ∀ x y, f x y = (x || y)) ∨ (kd = 2 ∧ ∀ x y, f x y = (x && !y))

set_option maxRecDepth 100000 in
set_option maxHeartbeats 16000000 in
theorem rboth_low (a b : BS) (kd : Int) (f : Bool → Bool → Bool) (hf : KindF kd f) (w : World) :
    Calls Tryd.prog 27 #[vset a, vset b, .int .i64 kd] w fun e w' => e = .returned (vset (lowB (fun j => f (a.getLsbD j) (b.getLsbD j)) 256)) ∧ Below w.heap.size w w' := by
  have HK := Lib.hid hf
  clear hf
  have HL : Hid (∀ k x y, a.getLsbD k = x → b.getLsbD k = y → lowB (fun j => f (a.getLsbD j) (b.getLsbD j)) (k + 1) = if f x y = true then withB (lowB (fun j => f (a.getLsbD j) (b.getLsbD j)) k) k else lowB (fun j => f (a.getLsbD j) (b.getLsbD j)) k) := fun k x y hx hy => by subst hx; subst hy; rfl
  have HZ0 : Hid (lowB (fun j => f (a.getLsbD j) (b.getLsbD j)) 0 = 0#256) := Lib.hid rfl
  generalize lowB (fun j => f (a.getLsbD j) (b.getLsbD j)) = L at HL HZ0 ⊢
  unfold vset
  go_enter Tryd.func27, Tryd.ntmps27
  go_wp2
  go_loopw [8] (fun i wr => ∃ (k : Nat), i = .int .i64 k ∧ k ≤ 256 ∧ Hid (Blk wr w.heap.size 29 (cset a)) ∧ Hid (Blk wr (w.heap.size + 1) 29 (cset b)) ∧ Hid (Blk wr (w.heap.size + 1 + 1) 29 zcs) ∧ Hid (Blk wr (w.heap.size + 1 + 1 + 1) 29 (cset (L k))) ∧ Hid (Below w.heap.size w wr))
    (fun i _ => 256 - (intOf i).toNat)
  case atStart =>
    refine ⟨0, rfl, Nat.zero_le _, ?_, ?_, ?_, ?_, ?_⟩
    · exact (((Blk.new w 29 _).alloc _).alloc _).alloc _
    · have h := ((Blk.new (w.alloc (.cells (cset a) 29)) 29 (cset b)).alloc (.cells zcs 29)).alloc (.cells zcs 29)
      rw [World.size_alloc] at h
      exact h
    · have h := (Blk.new ((w.alloc (.cells (cset a) 29)).alloc (.cells (cset b) 29)) 29 zcs).alloc (.cells zcs 29)
      rw [World.size_alloc, World.size_alloc] at h
      exact h
    · have h := Blk.new (((w.alloc (.cells (cset a) 29)).alloc (.cells (cset b) 29)).alloc (.cells zcs 29)) 29 zcs
      rw [World.size_alloc, World.size_alloc, World.size_alloc] at h
      rw [HZ0.out, cset_zero]
      exact h
    · exact ((((Below.refl _ w).alloc (Nat.le_refl _) _).alloc (by simp) _).alloc (by simp; omega) _).alloc (by simp; omega) _
  case round =>
    obtain ⟨k, rfl, hk, hA, hA2, hZ, hU, hB⟩ := hrel
    by_cases hlt : k < 256
    · obtain ⟨x, hx⟩ : ∃ x, a.getLsbD k = x := ⟨_, rfl⟩
      obtain ⟨y, hy⟩ : ∃ y, b.getLsbD k = y := ⟨_, rfl⟩
      have HN := Lib.hid (HL.out k x y hx hy)
      have HHa0 := rhas_any a k hlt
      have HHb0 := rhas_any b k hlt
      have HW0 := rwith_any (L k) k hlt
      rw [hx] at HHa0
      rw [hy] at HHb0
      clear hx hy
      obtain ⟨u, hu⟩ : ∃ u, u = L k := ⟨_, rfl⟩
      rw [← hu] at HN HW0 hU
      clear hu
      obtain ⟨u2, hu2⟩ : ∃ u2, u2 = withB u k := ⟨_, rfl⟩
      rw [← hu2] at HW0 HN
      clear hu2
      unfold vset at HHa0 HHb0 HW0
      have HHa := fun w' => Lib.hid (HHa0 w')
      have HHb := fun w' => Lib.hid (HHb0 w')
      have HW := fun w' => Lib.hid (HW0 w')
      clear HHa0 HHb0 HW0
      have a0 : wr.cell? ⟨w.heap.size, 0, none⟩ = some (.int .u64 (wdI a 0)) := hA.out.cell 0
      have a1 : wr.cell? ⟨w.heap.size, 1, none⟩ = some (.int .u64 (wdI a 1)) := hA.out.cell 1
      have a2 : wr.cell? ⟨w.heap.size, 2, none⟩ = some (.int .u64 (wdI a 2)) := hA.out.cell 2
      have a3 : wr.cell? ⟨w.heap.size, 3, none⟩ = some (.int .u64 (wdI a 3)) := hA.out.cell 3
      have b0 : wr.cell? ⟨w.heap.size + 1, 0, none⟩ = some (.int .u64 (wdI b 0)) := hA2.out.cell 0
      have b1 : wr.cell? ⟨w.heap.size + 1, 1, none⟩ = some (.int .u64 (wdI b 1)) := hA2.out.cell 1
      have b2 : wr.cell? ⟨w.heap.size + 1, 2, none⟩ = some (.int .u64 (wdI b 2)) := hA2.out.cell 2
      have b3 : wr.cell? ⟨w.heap.size + 1, 3, none⟩ = some (.int .u64 (wdI b 3)) := hA2.out.cell 3
      have hlt2 : w.heap.size + 1 + 1 + 1 < wr.heap.size := hU.out.lt
      go_upto_region 5 with fail
      go_cut [9, 10] (fun s9 s10 wx => s9 = .bool x ∧ s10 = .bool y ∧ Hid (Below wr.heap.size wr wx))
      case first =>
        have HKeep : Hid (∀ W W', Below wr.heap.size wr W → Below W.heap.size W W' → Below wr.heap.size wr W' ∧ (W'.cell? ⟨w.heap.size, 0, none⟩ = some (.int .u64 (wdI a 0)) ∧ W'.cell? ⟨w.heap.size, 1, none⟩ = some (.int .u64 (wdI a 1)) ∧ W'.cell? ⟨w.heap.size, 2, none⟩ = some (.int .u64 (wdI a 2)) ∧ W'.cell? ⟨w.heap.size, 3, none⟩ = some (.int .u64 (wdI a 3))) ∧ (W'.cell? ⟨w.heap.size + 1, 0, none⟩ = some (.int .u64 (wdI b 0)) ∧ W'.cell? ⟨w.heap.size + 1, 1, none⟩ = some (.int .u64 (wdI b 1)) ∧ W'.cell? ⟨w.heap.size + 1, 2, none⟩ = some (.int .u64 (wdI b 2)) ∧ W'.cell? ⟨w.heap.size + 1, 3, none⟩ = some (.int .u64 (wdI b 3)))) := by
          refine Lib.hid fun W W' h1 h2 => ?_
          have h3 := h1.trans (h2.mono h1.size)
          have hA' := hA.out.below h3 hA.out.lt
          have hB' := hA2.out.below h3 hA2.out.lt
          exact ⟨h3, ⟨hA'.cell 0, hA'.cell 1, hA'.cell 2, hA'.cell 3⟩, hB'.cell 0, hB'.cell 1, hB'.cell 2, hB'.cell 3⟩
        go_wp2_with fail
        go_region_held3 (fun W => (W.cell? ⟨w.heap.size, 0, none⟩ = some (.int .u64 (wdI a 0)) ∧ W.cell? ⟨w.heap.size, 1, none⟩ = some (.int .u64 (wdI a 1)) ∧ W.cell? ⟨w.heap.size, 2, none⟩ = some (.int .u64 (wdI a 2)) ∧ W.cell? ⟨w.heap.size, 3, none⟩ = some (.int .u64 (wdI a 3))) ∧ (W.cell? ⟨w.heap.size + 1, 0, none⟩ = some (.int .u64 (wdI b 0)) ∧ W.cell? ⟨w.heap.size + 1, 1, none⟩ = some (.int .u64 (wdI b 1)) ∧ W.cell? ⟨w.heap.size + 1, 2, none⟩ = some (.int .u64 (wdI b 2)) ∧ W.cell? ⟨w.heap.size + 1, 3, none⟩ = some (.int .u64 (wdI b 3)))) (go_keep)
          (first
            | (go_at_call 17; (with_reducible refine (HHa _).out.mono ?_); rintro e w' ⟨rfl, hB1⟩; obtain ⟨hBx, ⟨e0, e1, e2, e3⟩, e4, e5, e6, e7⟩ := HKeep.out _ _ (by first | assumption | exact (Below.refl _ wr).drew) hB1; clear hB1)
            | (go_at_call 17; (with_reducible refine (HHb _).out.mono ?_); rintro e w' ⟨rfl, hB1⟩; obtain ⟨hBx, ⟨e0, e1, e2, e3⟩, e4, e5, e6, e7⟩ := HKeep.out _ _ (by first | assumption | exact (Below.refl _ wr).drew) hB1; clear hB1))
        all_goals
          have HBX := Lib.hid hBx
          clear e0 e1 e2 e3 e4 e5 e6 e7 hBx
          go_wp2_with fail
          go_meet
          exact ⟨rfl, rfl, HBX⟩
      case rest =>
        obtain ⟨rfl, rfl, hBc⟩ := hcut
        have hA1 := Lib.hid (hA.out.below hBc.out hA.out.lt)
        have hA21 := Lib.hid (hA2.out.below hBc.out hA2.out.lt)
        have hZ1 := Lib.hid (hZ.out.below hBc.out hZ.out.lt)
        have hU1 := Lib.hid (hU.out.below hBc.out hU.out.lt)
        have hB1 := Lib.hid (hB.out.trans (hBc.out.mono hB.out.size))
        clear hA hA2 hZ hU hB hBc a0 a1 a2 a3 b0 b1 b2 b3 hlt2 HHa HHb
        have c0 : wc.cell? ⟨w.heap.size + 1 + 1 + 1, 0, none⟩ = some (.int .u64 (wdI u 0)) := hU1.out.cell 0
        have c1 : wc.cell? ⟨w.heap.size + 1 + 1 + 1, 1, none⟩ = some (.int .u64 (wdI u 1)) := hU1.out.cell 1
        have c2 : wc.cell? ⟨w.heap.size + 1 + 1 + 1, 2, none⟩ = some (.int .u64 (wdI u 2)) := hU1.out.cell 2
        have c3 : wc.cell? ⟨w.heap.size + 1 + 1 + 1, 3, none⟩ = some (.int .u64 (wdI u 3)) := hU1.out.cell 3
        have hlt3 : w.heap.size + 1 + 1 + 1 < wc.heap.size := hU1.out.lt
        go_upto_region 6 with fail
        go_cut [50] (fun s50 wx => s50 = .bool (f x y) ∧ wx = wc)
        case first =>
          rcases HK.out with ⟨rfl, hf⟩ | ⟨rfl, hf⟩ | ⟨rfl, hf⟩
          · have HF := Lib.hid hf
            clear hf HK
            cases x <;> cases y
            all_goals
              go_wp2_with fail
              go_meet
              exact ⟨by rw [HF.out]; rfl, rfl⟩
          · have HF := Lib.hid hf
            clear hf HK
            cases x <;> cases y
            all_goals
              go_wp2_with fail
              go_meet
              exact ⟨by rw [HF.out]; rfl, rfl⟩
          · have HF := Lib.hid hf
            clear hf HK
            cases x <;> cases y
            all_goals
              go_wp2_with fail
              go_meet
              exact ⟨by rw [HF.out]; rfl, rfl⟩
        case rest =>
          obtain ⟨rfl, rfl⟩ := hcut
          cases hv : f x y with
          | false =>
            rw [hv] at HN
            have HN2 : Hid (L (k + 1) = u) := Lib.hid HN.out
            clear hv HN HW
            go_wp2
            go_roundw
            case rel =>
              exact ⟨k + 1, by go_num, by omega, hA1, hA21, hZ1, by rw [HN2.out]; exact hU1, hB1⟩
            case measure => simp [intOf]; omega
          | true =>
            rw [hv] at HN
            have HN2 : Hid (L (k + 1) = u2) := Lib.hid HN.out
            clear hv HN
            go_wp2_with fail
            refine (HW _).out.mono ?_
            rintro e w2 ⟨rfl, hB2⟩
            have hA2 := Lib.hid (hA1.out.below hB2 (by omega))
            have hA3 := Lib.hid (hA21.out.below hB2 (by omega))
            have hZ2 := Lib.hid (hZ1.out.below hB2 (by omega))
            have hU2 := Lib.hid (hU1.out.below hB2 (by omega))
            have hBC := Lib.hid (hB1.out.trans (hB2.mono hB1.out.size))
            clear hA1 hA21 hZ1 hU1 hB1 hB2 c0 c1 c2 c3 HW
            have c0 : w2.cell? ⟨w.heap.size + 1 + 1 + 1, 0, none⟩ = some (.int .u64 (wdI u 0)) := hU2.out.cell 0
            have c1 : w2.cell? ⟨w.heap.size + 1 + 1 + 1, 1, none⟩ = some (.int .u64 (wdI u 1)) := hU2.out.cell 1
            have c2 : w2.cell? ⟨w.heap.size + 1 + 1 + 1, 2, none⟩ = some (.int .u64 (wdI u 2)) := hU2.out.cell 2
            have c3 : w2.cell? ⟨w.heap.size + 1 + 1 + 1, 3, none⟩ = some (.int .u64 (wdI u 3)) := hU2.out.cell 3
            have fz : ∀ i, w2.frozen? ⟨w.heap.size + 1 + 1 + 1, i, none⟩ = false := hU2.out.frozen
            go_wp2
            go_roundw
            case rel =>
              refine ⟨k + 1, by go_num, by omega, ?_, ?_, ?_, ?_, ?_⟩
              · exact (((hA2.out.other (by simp; omega) _).other (by simp; omega) _).other (by simp; omega) _).other (by simp; omega) _
              · exact (((hA3.out.other (by simp) _).other (by simp) _).other (by simp) _).other (by simp) _
              · exact (((hZ2.out.other (by simp) _).other (by simp) _).other (by simp) _).other (by simp) _
              · rw [HN2.out]; exact hU2.out.set4 _ _ _ _
              · exact below_set4 hBC.out (by omega) _ _ _ _
            case measure => simp [intOf]; omega
    · obtain rfl : k = 256 := by omega
      obtain ⟨ns, hns⟩ : ∃ ns, ns = L 256 := ⟨_, rfl⟩
      rw [← hns] at hU
      have HNS := Lib.hid hns
      clear hns
      have c0 : wr.cell? ⟨w.heap.size + 1 + 1 + 1, 0, none⟩ = some (.int .u64 (wdI ns 0)) := Blk.cell hU.out 0
      have c1 : wr.cell? ⟨w.heap.size + 1 + 1 + 1, 1, none⟩ = some (.int .u64 (wdI ns 1)) := Blk.cell hU.out 1
      have c2 : wr.cell? ⟨w.heap.size + 1 + 1 + 1, 2, none⟩ = some (.int .u64 (wdI ns 2)) := Blk.cell hU.out 2
      have c3 : wr.cell? ⟨w.heap.size + 1 + 1 + 1, 3, none⟩ = some (.int .u64 (wdI ns 3)) := Blk.cell hU.out 3
      have z0 : wr.cell? ⟨w.heap.size + 1 + 1, 0, none⟩ = some (.int .u64 0) := Blk.cell hZ.out 0
      have z1 : wr.cell? ⟨w.heap.size + 1 + 1, 1, none⟩ = some (.int .u64 0) := Blk.cell hZ.out 1
      have z2 : wr.cell? ⟨w.heap.size + 1 + 1, 2, none⟩ = some (.int .u64 0) := Blk.cell hZ.out 2
      have z3 : wr.cell? ⟨w.heap.size + 1 + 1, 3, none⟩ = some (.int .u64 0) := Blk.cell hZ.out 3
      have fz : ∀ i, wr.frozen? ⟨w.heap.size + 1 + 1, i, none⟩ = false := Blk.frozen hZ.out
      go_wp2
      have y := Blk.set4 hZ.out (.int .u64 (wdI ns 0)) (.int .u64 (wdI ns 1)) (.int .u64 (wdI ns 2)) (.int .u64 (wdI ns 3))
      have y0 := y.cell 0
      have y1 := y.cell 1
      have y2 := y.cell 2
      have y3 := y.cell 3
      refine bodyPost_ret (v := .agg #[.int .u64 (wdI ns 0), .int .u64 (wdI ns 1), .int .u64 (wdI ns 2), .int .u64 (wdI ns 3)]) (by simp [results, Tryd.results27, go_sem, y0, y1, y2, y3]) rfl ⟨by rw [HNS.out], ?_⟩
      exact below_set4 hB.out (by omega) _ _ _ _

theorem rboth_meet (a b : BS) (w : World) : Calls Tryd.prog 27 #[vset a, vset b, .int .i64 0] w fun e w' => e = .returned (vset (a &&& b)) ∧ Below w.heap.size w w' := by
  have h := rboth_low a b 0 (fun x y => x && y) (.inl ⟨rfl, fun _ _ => rfl⟩) w
  rw [lowB_eq _ (a &&& b) (fun j _ => by rw [BitVec.getLsbD_and])] at h
  exact h
theorem rboth_join (a b : BS) (w : World) : Calls Tryd.prog 27 #[vset a, vset b, .int .i64 1] w fun e w' => e = .returned (vset (a ||| b)) ∧ Below w.heap.size w w' := by
  have h := rboth_low a b 1 (fun x y => x || y) (.inr (.inl ⟨rfl, fun _ _ => rfl⟩)) w
  rw [lowB_eq _ (a ||| b) (fun j _ => by rw [BitVec.getLsbD_or])] at h
  exact h
theorem rboth_without (a b : BS) (w : World) : Calls Tryd.prog 27 #[vset a, vset b, .int .i64 2] w fun e w' => e = .returned (vset (a &&& ~~~b)) ∧ Below w.heap.size w w' := by
  have h := rboth_low a b 2 (fun x y => x && !y) (.inr (.inr ⟨rfl, fun _ _ => rfl⟩)) w
  rw [lowB_eq _ (a &&& ~~~b) (fun j hj => by rw [BitVec.getLsbD_and, BitVec.getLsbD_not]; simp [hj])] at h
  exact h
end Go.Proofs.YtegmoeeeomjkgaaDoor
end
section
namespace Go.Proofs.YtegmoeeeomjkgaaDoor
open Go Go.RowKit

set_option maxRecDepth 100000 in
set_option maxHeartbeats 8000000 in
theorem runion_any (a : Option Addr) (cap : Nat) (l : List BS) (w : World) (hd : RowB w a l) (hl : l.length ≤ 1048576) :
    Calls Tryd.prog 25 #[.slice a l.length cap] w fun e w' => e = .returned (vset (unionL l)) ∧ Below w.heap.size w w' := by
  have HD := Lib.hid hd
  clear hd
  go_enter Tryd.func25, Tryd.ntmps25
  go_wp2
  go_loopw [4] (fun i wr => ∃ (k : Nat), i = .int .i64 k ∧ k ≤ l.length ∧ Hid (Blk wr w.heap.size 29 zcs) ∧ Hid (Blk wr (w.heap.size + 1) 29 (cset (unionL (l.take k)))) ∧ Hid (Below w.heap.size w wr))
    (fun i _ => l.length - (intOf i).toNat)
  case atStart =>
    refine ⟨0, rfl, Nat.zero_le _, ?_, ?_, ?_⟩
    · exact (Blk.new w 29 zcs).alloc _
    · have h := Blk.new (w.alloc (.cells #[.int .u64 0, .int .u64 0, .int .u64 0, .int .u64 0] 29)) 29 #[.int .u64 0, .int .u64 0, .int .u64 0, .int .u64 0]
      rw [World.size_alloc] at h
      rw [List.take_zero, show unionL [] = 0#256 from rfl, cset_zero]
      exact h
    · exact ((Below.refl _ w).alloc (Nat.le_refl _) _).alloc (by simp) _
  case round =>
    obtain ⟨k, rfl, hk, hZ, hU, hB⟩ := hrel
    by_cases hlt : k < l.length
    · have HX : Hid (l[k]? = some l[k]) := Lib.hid (List.getElem?_eq_getElem hlt)
      obtain ⟨x, hx⟩ : ∃ x, l[k] = x := ⟨_, rfl⟩
      rw [hx] at HX
      obtain ⟨u, hu⟩ : ∃ u, u = unionL (l.take k) := ⟨_, rfl⟩
      rw [← hu] at hU
      have HN : Hid (unionL (l.take (k + 1)) = u ||| x) := by
        refine Lib.hid ?_
        rw [List.take_add_one, HX.out, hu]
        simp [unionL, List.foldl_append]
      clear hx hu
      obtain ⟨b, off, rfl, e0, e1, e2, e3⟩ := HD.out k _ HX.out
      have bl : b < w.heap.size := lt_of_cell e0
      have r0 : wr.cell? ⟨b, off + k * 4, none⟩ = some (.int .u64 (wdI x 0)) := (hB.out.cell (p := ⟨b, _, none⟩) bl).trans e0
      have r1 : wr.cell? ⟨b, off + k * 4 + 1, none⟩ = some (.int .u64 (wdI x 1)) := (hB.out.cell (p := ⟨b, _, none⟩) bl).trans e1
      have r2 : wr.cell? ⟨b, off + k * 4 + 2, none⟩ = some (.int .u64 (wdI x 2)) := (hB.out.cell (p := ⟨b, _, none⟩) bl).trans e2
      have r3 : wr.cell? ⟨b, off + k * 4 + 3, none⟩ = some (.int .u64 (wdI x 3)) := (hB.out.cell (p := ⟨b, _, none⟩) bl).trans e3
      clear e0 e1 e2 e3
      have c0 : wr.cell? ⟨w.heap.size + 1, 0, none⟩ = some (.int .u64 (wdI u 0)) := hU.out.cell 0
      have c1 : wr.cell? ⟨w.heap.size + 1, 1, none⟩ = some (.int .u64 (wdI u 1)) := hU.out.cell 1
      have c2 : wr.cell? ⟨w.heap.size + 1, 2, none⟩ = some (.int .u64 (wdI u 2)) := hU.out.cell 2
      have c3 : wr.cell? ⟨w.heap.size + 1, 3, none⟩ = some (.int .u64 (wdI u 3)) := hU.out.cell 3
      have HW0 := rboth_join u x
      obtain ⟨u2, hu2⟩ : ∃ u2, u2 = u ||| x := ⟨_, rfl⟩
      rw [← hu2] at HW0 HN
      clear hu2
      unfold vset at HW0
      have HW := fun w' => Lib.hid (HW0 w')
      clear HW0
      have hlt2 : w.heap.size + 1 < wr.heap.size := hU.out.lt
      have HK : Hid (∀ w', Below wr.drew.heap.size wr.drew w' → Blk w' (w.heap.size + 1) 29 (cset u) ∧ (w'.cell? ⟨b, off + k * 4, none⟩ = some (.int .u64 (wdI x 0)) ∧ w'.cell? ⟨b, off + k * 4 + 1, none⟩ = some (.int .u64 (wdI x 1)) ∧ w'.cell? ⟨b, off + k * 4 + 2, none⟩ = some (.int .u64 (wdI x 2)) ∧ w'.cell? ⟨b, off + k * 4 + 3, none⟩ = some (.int .u64 (wdI x 3)))) := fun w' hB1 => by
        have hb' : b < wr.drew.heap.size := Nat.lt_of_lt_of_le bl hB.out.size
        exact ⟨Blk.below (Blk.drew hU.out) hB1 hU.out.lt, (hB1.cell (p := ⟨b, _, none⟩) hb').trans r0, (hB1.cell (p := ⟨b, _, none⟩) hb').trans r1, (hB1.cell (p := ⟨b, _, none⟩) hb').trans r2, (hB1.cell (p := ⟨b, _, none⟩) hb').trans r3⟩
      go_wp2
      go_region_with (first | (go_at_call 27; (with_reducible refine (HW _).out.mono ?_); rintro e w' ⟨rfl, hB1⟩; have hU1 := (HK.out w' hB1).1; obtain ⟨e0, e1, e2, e3⟩ := (HK.out w' hB1).2; have d0 : w'.cell? ⟨w.heap.size + 1, 0, none⟩ = some (.int .u64 (wdI u 0)) := hU1.cell 0; have d1 : w'.cell? ⟨w.heap.size + 1, 1, none⟩ = some (.int .u64 (wdI u 1)) := hU1.cell 1; have d2 : w'.cell? ⟨w.heap.size + 1, 2, none⟩ = some (.int .u64 (wdI u 2)) := hU1.cell 2; have d3 : w'.cell? ⟨w.heap.size + 1, 3, none⟩ = some (.int .u64 (wdI u 3)) := hU1.cell 3; have fz : ∀ i, w'.frozen? ⟨w.heap.size + 1, i, none⟩ = false := hU1.frozen))
      all_goals
        have hU2 := Lib.hid hU1
        have hZ2 := Lib.hid (Blk.below (Blk.drew hZ.out) hB1 hZ.out.lt)
        have hB2 := Lib.hid (below_at (hB.out.drew.trans (hB1.mono (show w.heap.size ≤ wr.drew.heap.size from hB.out.size))) (Nat.le_refl _))
        clear hU1 hB1 hU hZ hB
        go_wp2
        go_roundw
        case rel =>
          refine ⟨k + 1, by go_num, by omega, ?_, ?_, ?_⟩
          · exact (((hZ2.out.other (by simp) _).other (by simp) _).other (by simp) _).other (by simp) _
          · rw [HN.out]; exact hU2.out.set4 _ _ _ _
          · exact below_set4 hB2.out (by omega) _ _ _ _
        case measure => simp [intOf]; omega
    · obtain rfl : k = l.length := by omega
      rw [List.take_length] at hU
      obtain ⟨u, hu⟩ : ∃ u, u = unionL l := ⟨_, rfl⟩
      rw [← hu] at hU
      have c0 : wr.cell? ⟨w.heap.size + 1, 0, none⟩ = some (.int .u64 (wdI u 0)) := Blk.cell hU.out 0
      have c1 : wr.cell? ⟨w.heap.size + 1, 1, none⟩ = some (.int .u64 (wdI u 1)) := Blk.cell hU.out 1
      have c2 : wr.cell? ⟨w.heap.size + 1, 2, none⟩ = some (.int .u64 (wdI u 2)) := Blk.cell hU.out 2
      have c3 : wr.cell? ⟨w.heap.size + 1, 3, none⟩ = some (.int .u64 (wdI u 3)) := Blk.cell hU.out 3
      have z0 : wr.cell? ⟨w.heap.size, 0, none⟩ = some (.int .u64 0) := Blk.cell hZ.out 0
      have z1 : wr.cell? ⟨w.heap.size, 1, none⟩ = some (.int .u64 0) := Blk.cell hZ.out 1
      have z2 : wr.cell? ⟨w.heap.size, 2, none⟩ = some (.int .u64 0) := Blk.cell hZ.out 2
      have z3 : wr.cell? ⟨w.heap.size, 3, none⟩ = some (.int .u64 0) := Blk.cell hZ.out 3
      have fz : ∀ i, wr.frozen? ⟨w.heap.size, i, none⟩ = false := Blk.frozen hZ.out
      have HU := Lib.hid hu
      clear hu
      go_wp2
      have y := Blk.set4 hZ.out (.int .u64 (wdI u 0)) (.int .u64 (wdI u 1)) (.int .u64 (wdI u 2)) (.int .u64 (wdI u 3))
      have y0 := y.cell 0
      have y1 := y.cell 1
      have y2 := y.cell 2
      have y3 := y.cell 3
      refine bodyPost_ret (v := .agg #[.int .u64 (wdI u 0), .int .u64 (wdI u 1), .int .u64 (wdI u 2), .int .u64 (wdI u 3)]) (by simp [results, Tryd.results25, go_sem, y0, y1, y2, y3]) rfl ⟨by rw [← HU.out]; rfl, ?_⟩
      exact below_set4 hB.out (Nat.le_refl _) _ _ _ _
end Go.Proofs.YtegmoeeeomjkgaaDoor
end
