import Derived.Test.YtdodkbpagbblmaaDoorR3
import Derived.WalkMore
namespace Go.Proofs.YtdodkbpagbblmaaDoor
open Go Go.RowKit

/-- The items of a set's text, up to its end. -/
def readItems : Nat → BS → List UInt8 → Option BS
  | 0, _, _ => none
  | f + 1, s, l => if l = [93] then some s else if (itemB l).2 = 0 then none else readItems f (addR s (itemB l).1) (l.drop (itemB l).2)

/-- The set that a text is. -/
def readS (l : List UInt8) : Option BS :=
  if Lib.hasPrefix l [91] then
    if Lib.hasPrefix (Lib.trimPrefix l [91]) [94] then
      (readItems ((Lib.trimPrefix (Lib.trimPrefix l [91]) [94]).length + 1) 0#256 (Lib.trimPrefix (Lib.trimPrefix l [91]) [94])).map (fun s => ~~~s)
    else readItems ((Lib.trimPrefix l [91]).length + 1) 0#256 (Lib.trimPrefix l [91])
  else none

def readV : Option BS → Value
  | some s => .tuple #[vset s, .int .i64 0]
  | none => .tuple #[.agg #[.int .u64 0, .int .u64 0, .int .u64 0, .int .u64 0], .int .i64 120]

def strLen : Value → Nat
  | .string s => s.size
  | _ => 0

theorem trim_len (l p : List UInt8) : (Lib.trimPrefix l p).length ≤ l.length := by
  unfold Lib.trimPrefix; split
  · simp
  · exact Nat.le_refl _

theorem itemB_lt (l : List UInt8) : (itemB l).1.1 < 256 ∧ (itemB l).1.2 < 256 ∧ (itemB l).2 ≤ l.length := by
  have h1 := byteB_lt l
  have h2 := byteB_lt (l.drop ((byteB l).2 + 1))
  unfold itemB
  split
  · exact ⟨h1.1, h1.1, h1.2⟩
  · rename_i hc
    have hp : Lib.hasPrefix (l.drop (byteB l).2) [45] = true := by
      cases h : Lib.hasPrefix (l.drop (byteB l).2) [45] with
      | true => rfl
      | false => exact absurd (.inr h) hc
    have hr := hasPrefix_room _ _ hp
    split
    · exact ⟨by decide, by decide, Nat.zero_le _⟩
    · refine ⟨h1.1, h2.1, ?_⟩
      have := h2.2
      rw [List.length_drop] at this
      dsimp only
      omega

set_option maxRecDepth 100000 in
set_option maxHeartbeats 4000000 in
theorem read_any (s : ByteArray) (hs : s.size ≤ 140737488351232) (w : World) (hG : Glob w) :
    Calls Tryd.prog 42 #[.string s] w fun e w' => e = .returned (readV (readS s.data.toList)) ∧ Below w.heap.size w w' := by
  have HG := Lib.hid hG
  clear hG
  have hsz : s.data.toList.length = s.size := (Lib.size_eq s).symm
  have HC1 : ∀ w', Hid (Calls Tryd.prog 58 #[.string s, .string ⟨#[91]⟩] w' fun e w'' => e = .returned (.tuple #[.string ⟨(Lib.trimPrefix s.data.toList [91]).toArray⟩, .bool (Lib.hasPrefix s.data.toList [91])]) ∧ w' = w'') := fun w' => (Tryd.strings_CutPrefix s ⟨#[91]⟩ w').mono fun _ _ ⟨a, b⟩ => ⟨a, b.symm⟩
  have hl1 := trim_len s.data.toList [91]
  obtain ⟨R, hR⟩ : ∃ R, R = readV (readS s.data.toList) := ⟨_, rfl⟩
  rw [← hR]
  have HR := Lib.hid hR
  clear hR
  obtain ⟨l1, hl1e⟩ : ∃ l1, l1 = Lib.trimPrefix s.data.toList [91] := ⟨_, rfl⟩
  rw [← hl1e] at HC1 hl1
  have HL1 := Lib.hid hl1e
  clear hl1e
  cases hp : Lib.hasPrefix s.data.toList [91] with
  | false =>
    have hE : R = readV none := by rw [HR.out, readS, hp]; rfl
    rw [hE]
    rw [hp] at HC1
    clear HR hE HL1 hp
    unfold readV
    go_enter Tryd.func42, Tryd.ntmps42
    go_wp2
    go_step3
    go_wp2_with (go_at_call 58; refine (HC1 _).out.mono ?_; rintro e w' ⟨rfl, rfl⟩)
    rw [Exit.noGoto_ret]
    refine bodyPost_ret (v := .tuple #[.agg #[.int .u64 0, .int .u64 0, .int .u64 0, .int .u64 0], .int .i64 120]) (by simp [results, Tryd.results42, go_sem]) rfl ⟨rfl, ?_⟩
    exact (Below.refl _ w).alloc (Nat.le_refl _) _
  | true =>
    rw [hp] at HC1
    have HC2 : ∀ w', Hid (Calls Tryd.prog 58 #[.string ⟨l1.toArray⟩, .string ⟨#[94]⟩] w' fun e w'' => e = .returned (.tuple #[.string ⟨(Lib.trimPrefix l1 [94]).toArray⟩, .bool (Lib.hasPrefix l1 [94])]) ∧ w' = w'') := fun w' => (Tryd.strings_CutPrefix ⟨l1.toArray⟩ ⟨#[94]⟩ w').mono fun _ _ ⟨a, b⟩ => ⟨by simpa using a, b.symm⟩
    have hl2 := trim_len l1 [94]
    obtain ⟨l2, hl2e⟩ : ∃ l2, l2 = Lib.trimPrefix l1 [94] := ⟨_, rfl⟩
    rw [← hl2e] at HC2 hl2
    obtain ⟨ot, hot⟩ : ∃ ot, ot = Lib.hasPrefix l1 [94] := ⟨_, rfl⟩
    rw [← hot] at HC2
    have HE : Hid (R = readV ((readItems (l2.length + 1) 0#256 l2).map (fun s => if ot then ~~~s else s))) := by
      refine Lib.hid ?_
      rw [HR.out, readS, hp, ← HL1.out, ← hot, hl2e]
      cases ot with
      | true => rfl
      | false =>
        have : Lib.trimPrefix l1 [94] = l1 := by unfold Lib.trimPrefix; rw [← hot]; rfl
        rw [this]
        simp
    clear HR HL1 hl2e hot hp
    go_enter Tryd.func42, Tryd.ntmps42
    go_wp2
    go_step3
    go_wp2_with fail
    refine (HC1 _).out.mono ?_
    rintro e w' ⟨rfl, rfl⟩
    clear HC1
    go_wp2_with fail
    refine (HC2 _).out.mono ?_
    rintro e w' ⟨rfl, rfl⟩
    clear HC2
    go_wp2
    go_step3
    go_wp2
    go_loopw [4] (fun p wr => ∃ (l : List UInt8) (u : BS) (f : Nat), p = .string ⟨l.toArray⟩ ∧ l.length ≤ 140737488351232 ∧ Hid (l.length < f) ∧ Hid (readItems (l2.length + 1) 0#256 l2 = readItems f u l) ∧ Hid (Blk wr w.heap.size 36 zcs) ∧ Hid (Blk wr (w.heap.size + 1) 36 (cset u)) ∧ Hid (Below w.heap.size w wr))
      (fun p _ => strLen p)
    case atStart =>
      refine ⟨l2, 0#256, l2.length + 1, rfl, by omega, Nat.lt_succ_self _, rfl, ?_, ?_, ?_⟩
      · exact (Blk.new w 36 zcs).alloc _
      · have h := Blk.new (w.alloc (.cells #[.int .u64 0, .int .u64 0, .int .u64 0, .int .u64 0] 36)) 36 #[.int .u64 0, .int .u64 0, .int .u64 0, .int .u64 0]
        rw [World.size_alloc] at h
        have e : cset 0#256 = zcs := by
          have h : ∀ i, i < 4 → wdI 0#256 i = 0 := by decide
          unfold cset zcs; rw [h 0 (by omega), h 1 (by omega), h 2 (by omega), h 3 (by omega)]
        rw [e]
        exact h
      · exact ((Below.refl _ w).alloc (Nat.le_refl _) _).alloc (by simp) _
    case round =>
      obtain ⟨l, u, f, rfl, hl, hf, hr, hZ, hU, hB⟩ := hrel
      have HI := Lib.hid (readItem_any ⟨l.toArray⟩ (by simpa [Lib.size_eq] using hl) wr (HG.out.below (Nat.le_refl _) hB.out))
      obtain ⟨q, hq⟩ : ∃ q, q = itemB l := ⟨_, rfl⟩
      have hq2 : q = itemB (⟨l.toArray⟩ : ByteArray).data.toList := hq
      rw [← hq2] at HI
      clear hq2
      obtain ⟨⟨a, b⟩, n⟩ := q
      dsimp only at HI
      go_wp2_with fail
      refine HI.out.mono ?_
      rintro e w1 ⟨rfl, hB1⟩
      have hZ1 := Lib.hid (hZ.out.below hB1 hZ.out.lt)
      have hU1 := Lib.hid (hU.out.below hB1 hU.out.lt)
      have hBB := Lib.hid (hB.out.trans (hB1.mono hB.out.size))
      have hlt1 : w.heap.size + 1 < w1.heap.size := hU1.out.lt
      clear hZ hU hB hB1 HI
      cases hne : (l == [93]) with
      | true =>
        have hl93 : l = [93] := by simpa using hne
        have hres : Hid (readItems (l2.length + 1) 0#256 l2 = some u) := by
          refine Lib.hid ?_
          rw [hr.out]
          have := hf.out
          match f, this with
          | f + 1, _ => rw [readItems, if_pos hl93]
        have HRE : Hid (R = .tuple #[vset (if ot then ~~~u else u), .int .i64 0]) := by
          refine Lib.hid ?_
          rw [HE.out, hres.out]; rfl
        clear HE hr hf hres
        have c0 : ∀ o, (w1.alloc o).cell? ⟨(w.heap.size + 1), 0, none⟩ = some (.int .u64 (wdI (u) 0)) := fun o => (Blk.alloc hU1.out o).cell 0
        have c1 : ∀ o, (w1.alloc o).cell? ⟨(w.heap.size + 1), 1, none⟩ = some (.int .u64 (wdI (u) 1)) := fun o => (Blk.alloc hU1.out o).cell 1
        have c2 : ∀ o, (w1.alloc o).cell? ⟨(w.heap.size + 1), 2, none⟩ = some (.int .u64 (wdI (u) 2)) := fun o => (Blk.alloc hU1.out o).cell 2
        have c3 : ∀ o, (w1.alloc o).cell? ⟨(w.heap.size + 1), 3, none⟩ = some (.int .u64 (wdI (u) 3)) := fun o => (Blk.alloc hU1.out o).cell 3
        have z0 : ∀ o, (w1.alloc o).cell? ⟨w.heap.size, 0, none⟩ = some (.int .u64 0) := fun o => (Blk.alloc hZ1.out o).cell 0
        have z1 : ∀ o, (w1.alloc o).cell? ⟨w.heap.size, 1, none⟩ = some (.int .u64 0) := fun o => (Blk.alloc hZ1.out o).cell 1
        have z2 : ∀ o, (w1.alloc o).cell? ⟨w.heap.size, 2, none⟩ = some (.int .u64 0) := fun o => (Blk.alloc hZ1.out o).cell 2
        have z3 : ∀ o, (w1.alloc o).cell? ⟨w.heap.size, 3, none⟩ = some (.int .u64 0) := fun o => (Blk.alloc hZ1.out o).cell 3
        have fz : ∀ o i, (w1.alloc o).frozen? ⟨w.heap.size, i, none⟩ = false := fun o => (Blk.alloc hZ1.out o).frozen
        have fc : ∀ o i, (w1.alloc o).frozen? ⟨(w.heap.size + 1), i, none⟩ = false := fun o => (Blk.alloc hU1.out o).frozen
        cases ot with
        | false =>
          go_wp2
          have hb2 := Blk.set4 (Blk.alloc hZ1.out (.cells #[.int .u8 a, .int .u8 b] 88)) (.int .u64 (wdI u 0)) (.int .u64 (wdI u 1)) (.int .u64 (wdI u 2)) (.int .u64 (wdI u 3))
          have d0 := hb2.cell 0
          have d1 := hb2.cell 1
          have d2 := hb2.cell 2
          have d3 := hb2.cell 3
          rw [Exit.noGoto_ret]
          refine bodyPost_ret (v := .tuple #[.agg #[.int .u64 (wdI u 0), .int .u64 (wdI u 1), .int .u64 (wdI u 2), .int .u64 (wdI u 3)], .int .i64 0]) (by simp [results, Tryd.results42, go_sem, d0, d1, d2, d3]) rfl ⟨by rw [HRE.out]; rfl, ?_⟩
          exact below_set4 (hBB.out.alloc hBB.out.size _) (Nat.le_refl _) _ _ _ _
        | true =>
          have HN := fun w' => Lib.hid (not_any u w')
          go_wp2_with fail
          refine (HN _).out.mono ?_
          rintro e w2 ⟨rfl, hB2⟩
          have hZ2 := Lib.hid ((Blk.alloc hZ1.out (.cells #[.int .u8 a, .int .u8 b] 88)).below hB2 (by simp; omega))
          have hU2 := Lib.hid ((Blk.alloc hU1.out (.cells #[.int .u8 a, .int .u8 b] 88)).below hB2 (by simp; omega))
          have hBB2 := Lib.hid ((hBB.out.alloc hBB.out.size (.cells #[.int .u8 a, .int .u8 b] 88)).trans (hB2.mono (by have := hBB.out.size; simp; omega)))
          clear hZ1 hU1 hBB hB2 c0 c1 c2 c3 z0 z1 z2 z3 fz fc HN
          have HRE2 : Hid (R = .tuple #[vset (~~~u), .int .i64 0]) := HRE
          clear HRE
          obtain ⟨v, hv⟩ : ∃ v, v = ~~~u := ⟨_, rfl⟩
          rw [← hv] at HRE2 ⊢
          clear hv
          have c0 : w2.cell? ⟨(w.heap.size + 1), 0, none⟩ = some (.int .u64 (wdI (u) 0)) := Blk.cell hU2.out 0
          have c1 : w2.cell? ⟨(w.heap.size + 1), 1, none⟩ = some (.int .u64 (wdI (u) 1)) := Blk.cell hU2.out 1
          have c2 : w2.cell? ⟨(w.heap.size + 1), 2, none⟩ = some (.int .u64 (wdI (u) 2)) := Blk.cell hU2.out 2
          have c3 : w2.cell? ⟨(w.heap.size + 1), 3, none⟩ = some (.int .u64 (wdI (u) 3)) := Blk.cell hU2.out 3
          have z0 : w2.cell? ⟨w.heap.size, 0, none⟩ = some (.int .u64 0) := Blk.cell hZ2.out 0
          have z1 : w2.cell? ⟨w.heap.size, 1, none⟩ = some (.int .u64 0) := Blk.cell hZ2.out 1
          have z2 : w2.cell? ⟨w.heap.size, 2, none⟩ = some (.int .u64 0) := Blk.cell hZ2.out 2
          have z3 : w2.cell? ⟨w.heap.size, 3, none⟩ = some (.int .u64 0) := Blk.cell hZ2.out 3
          have fz : ∀ i, w2.frozen? ⟨w.heap.size, i, none⟩ = false := Blk.frozen hZ2.out
          have fc : ∀ i, w2.frozen? ⟨(w.heap.size + 1), i, none⟩ = false := Blk.frozen hU2.out
          unfold vset
          have hU3 := Lib.hid (Blk.set4 hU2.out (.int .u64 (wdI v 0)) (.int .u64 (wdI v 1)) (.int .u64 (wdI v 2)) (.int .u64 (wdI v 3)))
          have hZ3 := Lib.hid ((((hZ2.out.other (a := ⟨w.heap.size + 1, 0, none⟩) (by simp) (.int .u64 (wdI v 0))).other (a := ⟨w.heap.size + 1, 1, none⟩) (by simp) (.int .u64 (wdI v 1))).other (a := ⟨w.heap.size + 1, 2, none⟩) (by simp) (.int .u64 (wdI v 2))).other (a := ⟨w.heap.size + 1, 3, none⟩) (by simp) (.int .u64 (wdI v 3)))
          have hB3 := Lib.hid (below_set4 (B := w.heap.size + 1) hBB2.out (by omega) (.int .u64 (wdI v 0)) (.int .u64 (wdI v 1)) (.int .u64 (wdI v 2)) (.int .u64 (wdI v 3)))
          go_wp2
          have hb2 := Blk.set4 hZ3.out (.int .u64 (wdI v 0)) (.int .u64 (wdI v 1)) (.int .u64 (wdI v 2)) (.int .u64 (wdI v 3))
          have d0 := hb2.cell 0
          have d1 := hb2.cell 1
          have d2 := hb2.cell 2
          have d3 := hb2.cell 3
          rw [Exit.noGoto_ret]
          refine bodyPost_ret (v := .tuple #[.agg #[.int .u64 (wdI v 0), .int .u64 (wdI v 1), .int .u64 (wdI v 2), .int .u64 (wdI v 3)], .int .i64 0]) (by simp [results, Tryd.results42, go_sem, d0, d1, d2, d3]) rfl ⟨by rw [HRE2.out]; rfl, ?_⟩
          exact below_set4 hB3.out (Nat.le_refl _) _ _ _ _
      | false =>
        have hl93 : ¬ l = [93] := by simpa using hne
        by_cases hn0 : n = 0
        · subst hn0
          have hres : Hid (readItems (l2.length + 1) 0#256 l2 = none) := by
            refine Lib.hid ?_
            rw [hr.out]
            have := hf.out
            match f, this with
            | f + 1, _ => rw [readItems, if_neg hl93, ← hq, if_pos rfl]
          have HRE : Hid (R = .tuple #[.agg #[.int .u64 0, .int .u64 0, .int .u64 0, .int .u64 0], .int .i64 120]) := by
            refine Lib.hid ?_
            rw [HE.out, hres.out]; rfl
          clear HE hr hf hres hq
          have z0 : ∀ o, (w1.alloc o).cell? ⟨w.heap.size, 0, none⟩ = some (.int .u64 0) := fun o => (Blk.alloc hZ1.out o).cell 0
          have z1 : ∀ o, (w1.alloc o).cell? ⟨w.heap.size, 1, none⟩ = some (.int .u64 0) := fun o => (Blk.alloc hZ1.out o).cell 1
          have z2 : ∀ o, (w1.alloc o).cell? ⟨w.heap.size, 2, none⟩ = some (.int .u64 0) := fun o => (Blk.alloc hZ1.out o).cell 2
          have z3 : ∀ o, (w1.alloc o).cell? ⟨w.heap.size, 3, none⟩ = some (.int .u64 0) := fun o => (Blk.alloc hZ1.out o).cell 3
          have fz : ∀ o i, (w1.alloc o).frozen? ⟨w.heap.size, i, none⟩ = false := fun o => (Blk.alloc hZ1.out o).frozen
          go_wp2
          have hb2 := Blk.set4 (Blk.alloc hZ1.out (.cells #[.int .u8 a, .int .u8 b] 88)) (.int .u64 0) (.int .u64 0) (.int .u64 0) (.int .u64 0)
          have d0 := hb2.cell 0
          have d1 := hb2.cell 1
          have d2 := hb2.cell 2
          have d3 := hb2.cell 3
          rw [Exit.noGoto_ret]
          refine bodyPost_ret (v := .tuple #[.agg #[.int .u64 0, .int .u64 0, .int .u64 0, .int .u64 0], .int .i64 120]) (by simp [results, Tryd.results42, go_sem, d0, d1, d2, d3]) rfl ⟨by rw [HRE.out], ?_⟩
          exact below_set4 (hBB.out.alloc hBB.out.size _) (Nat.le_refl _) _ _ _ _
        · have hn1 : ¬ (n : Int) = 0 := by omega
          have hbd := itemB_lt l
          rw [← hq] at hbd
          dsimp only at hbd
          obtain ⟨ha, hb, hnl⟩ := hbd
          obtain ⟨g, hg⟩ : ∃ g, f = g + 1 := ⟨f - 1, by have := hf.out; omega⟩
          have hstep : Hid (readItems (l2.length + 1) 0#256 l2 = readItems g (addR u (a, b)) (l.drop n)) := by
            refine Lib.hid ?_
            rw [hr.out, hg, readItems, if_neg hl93, ← hq, if_neg hn0]
          have hfd : Hid ((l.drop n).length < g) := by
            refine Lib.hid ?_
            have := hf.out
            rw [List.length_drop]; omega
          clear hr hf hq hg
          have HW := fun w' => Lib.hid (withRange_any u (a, b) ha hb w')
          have hdrop : Hid (ByteArray.extract ⟨l.toArray⟩ n l.length = ⟨(l.drop n).toArray⟩) := by
            refine Lib.hid ?_
            apply ByteArray.ext
            apply Array.ext'
            have := extract_drop ⟨l.toArray⟩ n
            simpa [ByteArray.size] using this
          have c0 : ∀ o, (w1.alloc o).cell? ⟨(w.heap.size + 1), 0, none⟩ = some (.int .u64 (wdI (u) 0)) := fun o => (Blk.alloc hU1.out o).cell 0
          have c1 : ∀ o, (w1.alloc o).cell? ⟨(w.heap.size + 1), 1, none⟩ = some (.int .u64 (wdI (u) 1)) := fun o => (Blk.alloc hU1.out o).cell 1
          have c2 : ∀ o, (w1.alloc o).cell? ⟨(w.heap.size + 1), 2, none⟩ = some (.int .u64 (wdI (u) 2)) := fun o => (Blk.alloc hU1.out o).cell 2
          have c3 : ∀ o, (w1.alloc o).cell? ⟨(w.heap.size + 1), 3, none⟩ = some (.int .u64 (wdI (u) 3)) := fun o => (Blk.alloc hU1.out o).cell 3
          go_wp2_with fail
          refine (HW _).out.mono ?_
          rintro e w2 ⟨rfl, hB2⟩
          have hZ2 := Lib.hid ((Blk.alloc hZ1.out (.cells #[.int .u8 a, .int .u8 b] 88)).below hB2 (by simp; omega))
          have hU2 := Lib.hid ((Blk.alloc hU1.out (.cells #[.int .u8 a, .int .u8 b] 88)).below hB2 (by simp; omega))
          have hBB2 := Lib.hid ((hBB.out.alloc hBB.out.size (.cells #[.int .u8 a, .int .u8 b] 88)).trans (hB2.mono (by have := hBB.out.size; simp; omega)))
          clear hZ1 hU1 hBB hB2 c0 c1 c2 c3 HW
          obtain ⟨v, hv⟩ : ∃ v, v = addR u (a, b) := ⟨_, rfl⟩
          rw [← hv] at hstep ⊢
          clear hv
          have c0 : w2.cell? ⟨(w.heap.size + 1), 0, none⟩ = some (.int .u64 (wdI (u) 0)) := Blk.cell hU2.out 0
          have c1 : w2.cell? ⟨(w.heap.size + 1), 1, none⟩ = some (.int .u64 (wdI (u) 1)) := Blk.cell hU2.out 1
          have c2 : w2.cell? ⟨(w.heap.size + 1), 2, none⟩ = some (.int .u64 (wdI (u) 2)) := Blk.cell hU2.out 2
          have c3 : w2.cell? ⟨(w.heap.size + 1), 3, none⟩ = some (.int .u64 (wdI (u) 3)) := Blk.cell hU2.out 3
          have fc : ∀ i, w2.frozen? ⟨(w.heap.size + 1), i, none⟩ = false := Blk.frozen hU2.out
          unfold vset
          go_wp2
          go_roundw
          case rel =>
            refine ⟨l.drop n, v, g, ?_, ?_, hfd, hstep, ?_, ?_, ?_⟩
            · rw [hdrop.out]
            · rw [List.length_drop]; omega
            · exact (((hZ2.out.other (by simp) _).other (by simp) _).other (by simp) _).other (by simp) _
            · exact hU2.out.set4 _ _ _ _
            · exact below_set4 hBB2.out (by omega) _ _ _ _
          case measure => rw [hdrop.out]; simp [strLen, ByteArray.size]; omega
end Go.Proofs.YtdodkbpagbblmaaDoor
