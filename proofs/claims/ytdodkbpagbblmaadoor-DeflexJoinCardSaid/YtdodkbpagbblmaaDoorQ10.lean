import Derived.Test.YtdodkbpagbblmaaDoorQ9
namespace Go.Proofs.YtdodkbpagbblmaaDoor
open Go Go.RowKit

/-- A word, but for its place. -/
structure Wd where
  kind : Int
  txt : ByteArray
  set : BS
  num : Int
def wordC (x : Wd) (a : Int) : Array Value := #[.int .i64 x.kind, .int .i64 a, .string x.txt, .int .u64 (wdI x.set 0), .int .u64 (wdI x.set 1), .int .u64 (wdI x.set 2), .int .u64 (wdI x.set 3), .int .i64 x.num]
def wordV (x : Wd) (a : Int) : Value := .agg (wordC x a)
def noWd : Wd := ⟨0, ⟨#[]⟩, 0#256, 0⟩
def bytesOf (l : List UInt8) : ByteArray := ⟨l.toArray⟩

/-- The word at a text's beginning, and how long it is. -/
def nextW : List UInt8 → Option (Wd × Nat)
  | [] => none
  | c :: r =>
    if letB c.toNat || decide (c.toNat = 95) then
      (if nameB ((c :: r).take (runL (c :: r))) then some (⟨1, bytesOf ((c :: r).take (runL (c :: r))), 0#256, 0⟩, runL (c :: r)) else none)
    else if digB c.toNat then (numO (c :: r)).map fun v => (⟨4, ⟨#[]⟩, 0#256, v⟩, runL (c :: r))
    else if c.toNat = 34 then (textO r).map fun p => (⟨2, bytesStr p.1, 0#256, 0⟩, 1 + p.2)
    else if c.toNat = 91 then (setO (c :: r)).map fun s => (⟨3, ⟨#[]⟩, s, 0⟩, setL (c :: r))
    else if sgnB c.toNat then some (⟨5, bytesOf [c], 0#256, 0⟩, 1)
    else none

theorem cut_list (t : ByteArray) (k n : Nat) : cutS t k n = bytesOf ((t.data.toList.drop k).take n) := by
  apply WideShapes.bytes_inj
  unfold cutS bytesOf
  rw [ByteArray.data_extract, Array.toList_extract, List.extract_eq_take_drop]
  simp

def NextP (B : Nat) (t : ByteArray) (k : Nat) (w : World) (e : Ending) (w' : World) : Prop :=
  w.grownBy w' (some B) ∧ (if k = t.size then e = .returned (.tuple #[wordV noWd 0, .bool false]) ∧ Rdr w' B t k
    else match nextW (t.data.toList.drop k) with
    | some p => e = .returned (.tuple #[wordV p.1 k, .bool true]) ∧ Rdr w' B t (k + p.2)
    | none => e = .panicked gone ∧ Rdr w' B t k)

theorem wz : wdI 0#256 0 = 0 ∧ wdI 0#256 1 = 0 ∧ wdI 0#256 2 = 0 ∧ wdI 0#256 3 = 0 := by decide

theorem nextW_of (l : List UInt8) (c : UInt8) (r : List UInt8) (h : l = c :: r) (b : Nat) (hb : c.toNat = b) : nextW l =
    if letB b || decide (b = 95) then
      (if nameB (l.take (runL l)) then some (⟨1, bytesOf (l.take (runL l)), 0#256, 0⟩, runL l) else none)
    else if digB b then (numO l).map fun v => (⟨4, ⟨#[]⟩, 0#256, v⟩, runL l)
    else if b = 34 then (textO r).map fun p => (⟨2, bytesStr p.1, 0#256, 0⟩, 1 + p.2)
    else if b = 91 then (setO l).map fun s => (⟨3, ⟨#[]⟩, s, 0⟩, setL l)
    else if sgnB b then some (⟨5, bytesOf (l.take 1), 0#256, 0⟩, 1)
    else none := by
  subst h; subst hb; rfl
theorem GlobD.at5 {w w' : World} (h : GlobD w) (h5 : ∀ i, i < 5 → w'.heap[i]? = w.heap[i]?) (hs : w.heap.size ≤ w'.heap.size) : GlobD w' := by
  obtain ⟨⟨h1, ev, h2, h3⟩, hp, hb⟩ := h
  refine ⟨⟨fun j hj => ?_, ev, ?_, h3⟩, ?_, Nat.lt_of_lt_of_le hb hs⟩
  · rw [World.cell?_of_block (w := w) (h5 3 (by omega))]; exact h1 j hj
  · rw [World.cell?_of_block (w := w) (h5 1 (by omega))]; exact h2
  · unfold Lib.TabIs World.var? at hp ⊢
    rw [pow_global] at hp ⊢
    simp only [Option.bind_some] at hp ⊢
    rw [h5 4 (by omega)]
    exact hp
theorem GlobD.grown {w w' : World} {B : Nat} (h : GlobD w) (hg : w.grownBy w' (some B)) (hB : 4 < B) : GlobD w' :=
  h.at5 (fun i hi => hg.block i (by have := h.big; omega) (by simp; omega)) hg.size

/-- The switch's world: the result's block Z, the word's X, the reader's B. -/
structure SwW (W w : World) (B Z X : Nat) (t : ByteArray) (m : Nat) : Prop where
  r : Rdr W B t m
  z : Blk W Z 38 #[.int .i64 0, .int .i64 0, .string ⟨#[]⟩, .int .u64 0, .int .u64 0, .int .u64 0, .int .u64 0, .int .i64 0]
  x : Blk W X 38 #[.int .i64 0, .int .i64 (m : Int), .string ⟨#[]⟩, .int .u64 0, .int .u64 0, .int .u64 0, .int .u64 0, .int .i64 0]
  g : w.grownBy W (some B)
  bz : B ≠ Z
  bx : B ≠ X
  zx : Z ≠ X
  wz : w.heap.size ≤ Z
  wx : w.heap.size ≤ X
  gl : GlobD W
theorem SwW.next {W W' w : World} {B Z X m n : Nat} {t : ByteArray} (h : SwW W w B Z X t m) (hg : W.grownBy W' (some B)) (hr : Rdr W' B t n) :
    Rdr W' B t n ∧ Blk W' Z 38 #[.int .i64 0, .int .i64 0, .string ⟨#[]⟩, .int .u64 0, .int .u64 0, .int .u64 0, .int .u64 0, .int .i64 0] ∧ Blk W' X 38 #[.int .i64 0, .int .i64 (m : Int), .string ⟨#[]⟩, .int .u64 0, .int .u64 0, .int .u64 0, .int .u64 0, .int .i64 0] ∧ w.grownBy W' (some B) :=
  ⟨hr, h.z.kept hg (by simp; exact fun e => h.bz e.symm), h.x.kept hg (by simp; exact fun e => h.bx e.symm), h.g.andThen hg (fun _ e => .inr e)⟩

set_option maxRecDepth 100000 in
set_option maxHeartbeats 16000000 in
theorem next_any (B : Nat) (t : ByteArray) (k : Nat) (ht : t.size ≤ 1048576) (hk : k ≤ t.size) (w : World) (hG : GlobD w) (hB : Rdr w B t k) (hB4 : 4 < B) :
    Calls Tryd.prog 13 #[.pointer (some ⟨B, 0, none⟩)] w (NextP B t (k + skipL (t.data.toList.drop k)) w) := by
  have hsk := skipL_le (t.data.toList.drop k)
  rw [drop_len] at hsk
  have HG := Lib.hid hG
  have hA0 : Below w.heap.size w (w.alloc (.cells #[.int .i64 0, .int .i64 0, .string ⟨#[]⟩, .int .u64 0, .int .u64 0, .int .u64 0, .int .u64 0, .int .i64 0] 38)) := (Below.refl _ w).alloc (Nat.le_refl _) _
  have hB0 := Blk.below hB hA0 hB.lt
  have HP := Lib.hid (passBlanks_any B t k ht hk _ hB0)
  obtain ⟨m, hm⟩ : ∃ m, m = k + skipL (t.data.toList.drop k) := ⟨_, rfl⟩
  rw [← hm] at HP ⊢
  have hmt : m ≤ t.size := by omega
  have HA0 := Lib.hid hA0
  clear hm hB0 hA0 hsk
  go_enter Tryd.func13, Tryd.ntmps13
  go_wp2_with fail
  refine HP.out.mono ?_
  rintro e w1 ⟨rfl, hg1, hR1⟩
  have hne : ¬ B = w.heap.size := by have := hB.lt; omega
  have hz1 : Blk w1 w.heap.size 38 #[.int .i64 0, .int .i64 0, .string ⟨#[]⟩, .int .u64 0, .int .u64 0, .int .u64 0, .int .u64 0, .int .i64 0] :=
    (Blk.new w 38 _).kept hg1 (by simp; exact fun e => hne e.symm)
  have hg : w.grownBy w1 (some B) := (grown_of_below' HA0.out (some B)).andThen hg1 (fun _ e => .inr e)
  have r0 : w1.cell? ⟨B, 0, none⟩ = some (.string t) := hR1.cell 0
  have r1 : w1.cell? ⟨B, 1, none⟩ = some (.int .i64 (m : Int)) := hR1.cell 1
  have hsz1 := hg1.size
  simp only [World.size_alloc] at hsz1
  by_cases hend : m = t.size
  · have n1 : ((m : Int) == (t.size : Int)) = true := by rw [beq_iff_eq]; omega
    have HZ1 := Lib.hid hz1
    have HR1 := Lib.hid hR1
    have Hg := Lib.hid hg
    have z0 := hz1.cell 0
    have z1 := hz1.cell 1
    have z2 := hz1.cell 2
    have z3 := hz1.cell 3
    have z4 := hz1.cell 4
    have z5 := hz1.cell 5
    have z6 := hz1.cell 6
    have z7 := hz1.cell 7
    have y := hz1.frozen
    have zl := hz1.lt
    have He := Lib.hid hend
    clear hz1 hR1 hg hg1 hend
    have e5 : w.heap.size ≤ w.heap.size := Nat.le_refl _
    simp only [List.getElem?_toArray, List.getElem?_cons_zero, List.getElem?_cons_succ] at z0 z1 z2 z3 z4 z5 z6 z7
    have HP0 : Hid (∀ e w', w.grownBy w' (some B) ∧ e = .returned (.tuple #[wordV noWd 0, .bool false]) ∧ Rdr w' B t m → NextP B t m w e w') := Lib.hid (fun e w' h => by unfold NextP; rw [if_pos He.out]; exact h)
    go_wp2
    go_region
    go_wp2
    refine bodyPost_ret (v := .tuple #[wordV noWd 0, .bool false]) (by simp [results, Tryd.results13, go_sem, wordV, wordC, noWd, wz.1, wz.2.1, wz.2.2.1, wz.2.2.2, z0, z1, z2, z3, z4, z5, z6, z7]) rfl ?_
    refine HP0.out _ _ ⟨?_, rfl, ?_⟩
    · repeat (first | with_reducible exact Hg.out | with_reducible refine grown_drew ?_ | with_reducible refine grown_new ?_ (by assumption) _ _)
    · repeat (first | with_reducible exact HR1.out | with_reducible refine Blk.drew ?_ | with_reducible refine Blk.other ?_ (by assumption) _)
  · have hlt : m < t.size := by omega
    have n1 : ((m : Int) == (t.size : Int)) = false := by rw [beq_eq_false_iff_ne]; omega
    have n2 : (m : Int) < (t.size : Int) := by omega
    have hlB := hR1.lt
    have n3 : (0 : Int) ≤ (m : Int) := by omega
    obtain ⟨b, hb⟩ : ∃ b, b = (t[m]'hlt).toNat := ⟨_, rfl⟩
    have hb256 : b < 256 := by rw [hb]; exact (t[m]'hlt).toNat_lt
    have hi : ∀ h, (t[m]'h).toNat = b := fun h => hb.symm
    obtain ⟨wa, hwa⟩ : ∃ wa, wa = (w1.alloc (.cells #[.int .i64 0, .int .i64 (m : Int), .string ⟨#[]⟩, .int .u64 0, .int .u64 0, .int .u64 0, .int .u64 0, .int .i64 0] 38)).drew.drew := ⟨_, rfl⟩
    have hsw : SwW wa w B w.heap.size w1.heap.size t m := by
      have hBa : Below w1.heap.size w1 wa := by rw [hwa]; exact (((Below.refl _ w1).alloc (Nat.le_refl _) _).drew).drew
      refine ⟨Blk.below hR1 hBa hR1.lt, Blk.below hz1 hBa hz1.lt, ?_, hg.andThen (grown_of_below' hBa (some B)) (fun _ e => .inr e), hne, by have := hR1.lt; omega, by omega, Nat.le_refl _, by omega, ?_⟩
      · rw [hwa]; exact Blk.new w1 38 _
      · exact HG.out.grown (hg.andThen (grown_of_below' hBa (some B)) (fun _ e => .inr e)) hB4
    have HW := Lib.hid hsw
    have HWa := Lib.hid hwa
    have hdr := Lib.hid (drop_at t m hlt)
    have HPost : Hid (∀ e w', (w.grownBy w' (some B) ∧ match nextW (t.data.toList.drop m) with
      | some p => e = .returned (.tuple #[wordV p.1 m, .bool true]) ∧ Rdr w' B t (m + p.2)
      | none => e = .panicked gone ∧ Rdr w' B t m) → NextP B t m w e w') := Lib.hid (fun e w' h => by unfold NextP; rw [if_neg hend]; exact h)
    have HD0 := Lib.hid (isDigit_any b)
    have HS0 := Lib.hid (isSgn_any b hb256)
    clear hb hwa hsw hz1 hR1 hg hg1 hend
    have HNW := Lib.hid (nextW_of _ _ _ hdr.out b (hi hlt))
    by_cases cA : 65 ≤ b ∧ b ≤ 90
    · have d1 : (65 : Int) ≤ b := by omega
      have d2 : (b : Int) ≤ 90 := by omega
      have HNx : Hid (nextW (t.data.toList.drop m) = if nameB ((t.data.toList.drop m).take (runL (t.data.toList.drop m))) then some (⟨1, bytesOf ((t.data.toList.drop m).take (runL (t.data.toList.drop m))), 0#256, 0⟩, runL (t.data.toList.drop m)) else none) := Lib.hid (by rw [HNW.out, if_pos (by simp [letB]; omega)])
      cases hnm : nameB ((t.data.toList.drop m).take (runL (t.data.toList.drop m))) with
      | true =>
        have HN := Lib.hid (fun W hW => readName_any B t m ht hmt W hW true hnm)
        have HX := Lib.hid (HNx.out.trans (by rw [if_pos hnm]))
        clear hnm
        go_wp2
        go_region
        go_wp2
        go_region
        rw [← HWa.out]
        go_wp2_with (first | (go_at_call 23; refine (HD0.out _).mono ?_; rintro e w' ⟨rfl, rfl⟩) | (go_at_call 27; refine (HS0.out _).mono ?_; rintro e w' ⟨rfl, rfl⟩))
        refine (HN.out _ HW.out.r).mono ?_
        rintro e w2 ⟨hg2, h2⟩
        simp only [if_true] at h2
        obtain ⟨rfl, hr2⟩ := h2
        rw [cut_list]
        have HPost := Lib.hid (fun e w' h => HPost.out e w' (by rw [HX.out]; exact h))
        obtain ⟨hr3, hz3, hx3, hg3⟩ := HW.out.next hg2 hr2
        have HR3 := Lib.hid hr3
        have HG3 := Lib.hid hg3
        have z0 := hz3.cell 0
        have z1 := hz3.cell 1
        have z2 := hz3.cell 2
        have z3 := hz3.cell 3
        have z4 := hz3.cell 4
        have z5 := hz3.cell 5
        have z6 := hz3.cell 6
        have z7 := hz3.cell 7
        have zf := hz3.frozen
        have zl := hz3.lt
        have x0 := hx3.cell 0
        have x1 := hx3.cell 1
        have x2 := hx3.cell 2
        have x3 := hx3.cell 3
        have x4 := hx3.cell 4
        have x5 := hx3.cell 5
        have x6 := hx3.cell 6
        have x7 := hx3.cell 7
        have xf := hx3.frozen
        have xl := hx3.lt
        simp only [List.getElem?_toArray, List.getElem?_cons_zero, List.getElem?_cons_succ] at z0 z1 z2 z3 z4 z5 z6 z7 x0 x1 x2 x3 x4 x5 x6 x7
        have e1 := HW.out.zx
        have e2 := e1.symm
        have e3 := HW.out.bz
        have e4 := HW.out.bx
        have e5 := HW.out.wz
        have e6 := HW.out.wx
        clear hr3 hz3 hx3 hg3 hg2 hr2
        go_wp2
        refine bodyPost_ret (v := .tuple #[wordV ⟨1, bytesOf ((t.data.toList.drop m).take (runL (t.data.toList.drop m))), 0#256, 0⟩ m, .bool true]) (by simp [results, Tryd.results13, go_sem, wordV, wordC, wz.1, wz.2.1, wz.2.2.1, wz.2.2.2, z0, z1, z2, z3, z4, z5, z6, z7]) rfl ?_
        refine HPost.out _ _ ⟨?_, rfl, ?_⟩
        · repeat (first | with_reducible exact HG3.out | with_reducible refine grown_drew ?_ | with_reducible refine grown_new ?_ (by assumption) _ _)
        · repeat (first | with_reducible exact HR3.out | with_reducible refine Blk.drew ?_ | with_reducible refine Blk.other ?_ (by assumption) _)
      | false =>
        have HN := Lib.hid (fun W hW => readName_any B t m ht hmt W hW false hnm)
        have HX : Hid (nextW (t.data.toList.drop m) = none) := Lib.hid (by rw [HNx.out, if_neg (by simp [hnm])])
        clear hnm
        go_wp2
        go_region
        go_wp2
        go_region
        rw [← HWa.out]
        go_wp2_with (first | (go_at_call 23; refine (HD0.out _).mono ?_; rintro e w' ⟨rfl, rfl⟩) | (go_at_call 27; refine (HS0.out _).mono ?_; rintro e w' ⟨rfl, rfl⟩))
        refine (HN.out _ HW.out.r).mono ?_
        rintro e w2 ⟨hg2, h2⟩
        simp only [Bool.false_eq_true, if_false] at h2
        obtain ⟨rfl, hr2⟩ := h2
        obtain ⟨hr3, _, _, hg3⟩ := HW.out.next hg2 hr2
        have HR3 := Lib.hid hr3
        have HG3 := Lib.hid hg3
        clear hr3 hg3 hg2 hr2
        go_wp2
        refine ⟨rfl, HPost.out _ _ ⟨HG3.out, ?_⟩⟩
        rw [HX.out]
        exact ⟨rfl, HR3.out⟩
    · by_cases cB : 97 ≤ b ∧ b ≤ 122
      · have d1 : (65 : Int) ≤ b := by omega
        have d2 : ¬ (b : Int) ≤ 90 := by omega
        have d3 : (97 : Int) ≤ b := by omega
        have d4 : (b : Int) ≤ 122 := by omega
        have HNx : Hid (nextW (t.data.toList.drop m) = if nameB ((t.data.toList.drop m).take (runL (t.data.toList.drop m))) then some (⟨1, bytesOf ((t.data.toList.drop m).take (runL (t.data.toList.drop m))), 0#256, 0⟩, runL (t.data.toList.drop m)) else none) := Lib.hid (by rw [HNW.out, if_pos (by simp [letB]; omega)])
        cases hnm : nameB ((t.data.toList.drop m).take (runL (t.data.toList.drop m))) with
        | true =>
          have HN := Lib.hid (fun W hW => readName_any B t m ht hmt W hW true hnm)
          have HX := Lib.hid (HNx.out.trans (by rw [if_pos hnm]))
          clear hnm
          go_wp2
          go_region
          go_wp2
          go_region
          rw [← HWa.out]
          go_wp2_with (first | (go_at_call 23; refine (HD0.out _).mono ?_; rintro e w' ⟨rfl, rfl⟩) | (go_at_call 27; refine (HS0.out _).mono ?_; rintro e w' ⟨rfl, rfl⟩))
          refine (HN.out _ HW.out.r).mono ?_
          rintro e w2 ⟨hg2, h2⟩
          simp only [if_true] at h2
          obtain ⟨rfl, hr2⟩ := h2
          rw [cut_list]
          have HPost := Lib.hid (fun e w' h => HPost.out e w' (by rw [HX.out]; exact h))
          obtain ⟨hr3, hz3, hx3, hg3⟩ := HW.out.next hg2 hr2
          have HR3 := Lib.hid hr3
          have HG3 := Lib.hid hg3
          have z0 := hz3.cell 0
          have z1 := hz3.cell 1
          have z2 := hz3.cell 2
          have z3 := hz3.cell 3
          have z4 := hz3.cell 4
          have z5 := hz3.cell 5
          have z6 := hz3.cell 6
          have z7 := hz3.cell 7
          have zf := hz3.frozen
          have zl := hz3.lt
          have x0 := hx3.cell 0
          have x1 := hx3.cell 1
          have x2 := hx3.cell 2
          have x3 := hx3.cell 3
          have x4 := hx3.cell 4
          have x5 := hx3.cell 5
          have x6 := hx3.cell 6
          have x7 := hx3.cell 7
          have xf := hx3.frozen
          have xl := hx3.lt
          simp only [List.getElem?_toArray, List.getElem?_cons_zero, List.getElem?_cons_succ] at z0 z1 z2 z3 z4 z5 z6 z7 x0 x1 x2 x3 x4 x5 x6 x7
          have e1 := HW.out.zx
          have e2 := e1.symm
          have e3 := HW.out.bz
          have e4 := HW.out.bx
          have e5 := HW.out.wz
          have e6 := HW.out.wx
          clear hr3 hz3 hx3 hg3 hg2 hr2
          go_wp2
          refine bodyPost_ret (v := .tuple #[wordV ⟨1, bytesOf ((t.data.toList.drop m).take (runL (t.data.toList.drop m))), 0#256, 0⟩ m, .bool true]) (by simp [results, Tryd.results13, go_sem, wordV, wordC, wz.1, wz.2.1, wz.2.2.1, wz.2.2.2, z0, z1, z2, z3, z4, z5, z6, z7]) rfl ?_
          refine HPost.out _ _ ⟨?_, rfl, ?_⟩
          · repeat (first | with_reducible exact HG3.out | with_reducible refine grown_drew ?_ | with_reducible refine grown_new ?_ (by assumption) _ _)
          · repeat (first | with_reducible exact HR3.out | with_reducible refine Blk.drew ?_ | with_reducible refine Blk.other ?_ (by assumption) _)
        | false =>
          have HN := Lib.hid (fun W hW => readName_any B t m ht hmt W hW false hnm)
          have HX : Hid (nextW (t.data.toList.drop m) = none) := Lib.hid (by rw [HNx.out, if_neg (by simp [hnm])])
          clear hnm
          go_wp2
          go_region
          go_wp2
          go_region
          rw [← HWa.out]
          go_wp2_with (first | (go_at_call 23; refine (HD0.out _).mono ?_; rintro e w' ⟨rfl, rfl⟩) | (go_at_call 27; refine (HS0.out _).mono ?_; rintro e w' ⟨rfl, rfl⟩))
          refine (HN.out _ HW.out.r).mono ?_
          rintro e w2 ⟨hg2, h2⟩
          simp only [Bool.false_eq_true, if_false] at h2
          obtain ⟨rfl, hr2⟩ := h2
          obtain ⟨hr3, _, _, hg3⟩ := HW.out.next hg2 hr2
          have HR3 := Lib.hid hr3
          have HG3 := Lib.hid hg3
          clear hr3 hg3 hg2 hr2
          go_wp2
          refine ⟨rfl, HPost.out _ _ ⟨HG3.out, ?_⟩⟩
          rw [HX.out]
          exact ⟨rfl, HR3.out⟩
      · have hlet : letB b = false := by simp [letB]; omega
        by_cases cC : b = 95
        · have HNx : Hid (nextW (t.data.toList.drop m) = if nameB ((t.data.toList.drop m).take (runL (t.data.toList.drop m))) then some (⟨1, bytesOf ((t.data.toList.drop m).take (runL (t.data.toList.drop m))), 0#256, 0⟩, runL (t.data.toList.drop m)) else none) := Lib.hid (by rw [HNW.out, if_pos (by simp [cC])])
          clear HNW hlet cA cB
          subst cC
          cases hnm : nameB ((t.data.toList.drop m).take (runL (t.data.toList.drop m))) with
          | true =>
            have HN := Lib.hid (fun W hW => readName_any B t m ht hmt W hW true hnm)
            have HX := Lib.hid (HNx.out.trans (by rw [if_pos hnm]))
            clear hnm
            go_wp2
            go_region
            go_wp2
            go_region
            rw [← HWa.out]
            go_wp2_with (first | (go_at_call 23; refine (HD0.out _).mono ?_; rintro e w' ⟨rfl, rfl⟩) | (go_at_call 27; refine (HS0.out _).mono ?_; rintro e w' ⟨rfl, rfl⟩))
            refine (HN.out _ HW.out.r).mono ?_
            rintro e w2 ⟨hg2, h2⟩
            simp only [if_true] at h2
            obtain ⟨rfl, hr2⟩ := h2
            rw [cut_list]
            have HPost := Lib.hid (fun e w' h => HPost.out e w' (by rw [HX.out]; exact h))
            obtain ⟨hr3, hz3, hx3, hg3⟩ := HW.out.next hg2 hr2
            have HR3 := Lib.hid hr3
            have HG3 := Lib.hid hg3
            have z0 := hz3.cell 0
            have z1 := hz3.cell 1
            have z2 := hz3.cell 2
            have z3 := hz3.cell 3
            have z4 := hz3.cell 4
            have z5 := hz3.cell 5
            have z6 := hz3.cell 6
            have z7 := hz3.cell 7
            have zf := hz3.frozen
            have zl := hz3.lt
            have x0 := hx3.cell 0
            have x1 := hx3.cell 1
            have x2 := hx3.cell 2
            have x3 := hx3.cell 3
            have x4 := hx3.cell 4
            have x5 := hx3.cell 5
            have x6 := hx3.cell 6
            have x7 := hx3.cell 7
            have xf := hx3.frozen
            have xl := hx3.lt
            simp only [List.getElem?_toArray, List.getElem?_cons_zero, List.getElem?_cons_succ] at z0 z1 z2 z3 z4 z5 z6 z7 x0 x1 x2 x3 x4 x5 x6 x7
            have e1 := HW.out.zx
            have e2 := e1.symm
            have e3 := HW.out.bz
            have e4 := HW.out.bx
            have e5 := HW.out.wz
            have e6 := HW.out.wx
            clear hr3 hz3 hx3 hg3 hg2 hr2
            go_wp2
            refine bodyPost_ret (v := .tuple #[wordV ⟨1, bytesOf ((t.data.toList.drop m).take (runL (t.data.toList.drop m))), 0#256, 0⟩ m, .bool true]) (by simp [results, Tryd.results13, go_sem, wordV, wordC, wz.1, wz.2.1, wz.2.2.1, wz.2.2.2, z0, z1, z2, z3, z4, z5, z6, z7]) rfl ?_
            refine HPost.out _ _ ⟨?_, rfl, ?_⟩
            · repeat (first | with_reducible exact HG3.out | with_reducible refine grown_drew ?_ | with_reducible refine grown_new ?_ (by assumption) _ _)
            · repeat (first | with_reducible exact HR3.out | with_reducible refine Blk.drew ?_ | with_reducible refine Blk.other ?_ (by assumption) _)
          | false =>
            have HN := Lib.hid (fun W hW => readName_any B t m ht hmt W hW false hnm)
            have HX : Hid (nextW (t.data.toList.drop m) = none) := Lib.hid (by rw [HNx.out, if_neg (by simp [hnm])])
            clear hnm
            go_wp2
            go_region
            go_wp2
            go_region
            rw [← HWa.out]
            go_wp2_with (first | (go_at_call 23; refine (HD0.out _).mono ?_; rintro e w' ⟨rfl, rfl⟩) | (go_at_call 27; refine (HS0.out _).mono ?_; rintro e w' ⟨rfl, rfl⟩))
            refine (HN.out _ HW.out.r).mono ?_
            rintro e w2 ⟨hg2, h2⟩
            simp only [Bool.false_eq_true, if_false] at h2
            obtain ⟨rfl, hr2⟩ := h2
            obtain ⟨hr3, _, _, hg3⟩ := HW.out.next hg2 hr2
            have HR3 := Lib.hid hr3
            have HG3 := Lib.hid hg3
            clear hr3 hg3 hg2 hr2
            go_wp2
            refine ⟨rfl, HPost.out _ _ ⟨HG3.out, ?_⟩⟩
            rw [HX.out]
            exact ⟨rfl, HR3.out⟩
        · have d5 : ((b : Int) == 95) = false := by rw [beq_eq_false_iff_ne]; omega
          cases hdg : digB b with
          | true =>
            rw [hdg] at HD0
            have hdg2 := of_decide_eq_true (show decide (48 ≤ b ∧ b ≤ 57) = true from hdg)
            have HNx : Hid (nextW (t.data.toList.drop m) = (numO (t.data.toList.drop m)).map fun v => (⟨4, ⟨#[]⟩, 0#256, v⟩, runL (t.data.toList.drop m))) := Lib.hid (by rw [HNW.out, if_neg (by simp [hlet, cC]), if_pos hdg])
            have d1 : ¬ (65 : Int) ≤ b := by omega
            have d3 : ¬ (97 : Int) ≤ b := by omega
            clear HNW hlet cA cB cC hdg
            have HC := Lib.hid (fun W (hW : Rdr W B t m) (hGW : GlobD W) => readNumber_any B t m ht hmt W hGW hW)
            obtain ⟨o, ho⟩ : ∃ o, o = numO (t.data.toList.drop m) := ⟨_, rfl⟩
            rw [← ho] at HC HNx
            clear ho
            cases o with
            | some v =>
              have HX : Hid (nextW (t.data.toList.drop m) = some (⟨4, ⟨#[]⟩, 0#256, v⟩, runL (t.data.toList.drop m))) := Lib.hid (HNx.out.trans rfl)
              clear HNx
              go_wp2
              go_region
              go_wp2
              go_region
              rw [← HWa.out]
              go_wp2_with (first | (go_at_call 23; refine (HD0.out _).mono ?_; rintro e w' ⟨rfl, rfl⟩) | (go_at_call 27; refine (HS0.out _).mono ?_; rintro e w' ⟨rfl, rfl⟩))
              refine (HC.out _ HW.out.r HW.out.gl).mono ?_
              rintro e w2 ⟨hg2, rfl, hr2⟩
              have HPost := Lib.hid (fun e w' h => HPost.out e w' (by rw [HX.out]; exact h))
              obtain ⟨hr3, hz3, hx3, hg3⟩ := HW.out.next hg2 hr2
              have HR3 := Lib.hid hr3
              have HG3 := Lib.hid hg3
              have z0 := hz3.cell 0
              have z1 := hz3.cell 1
              have z2 := hz3.cell 2
              have z3 := hz3.cell 3
              have z4 := hz3.cell 4
              have z5 := hz3.cell 5
              have z6 := hz3.cell 6
              have z7 := hz3.cell 7
              have zf := hz3.frozen
              have zl := hz3.lt
              have x0 := hx3.cell 0
              have x1 := hx3.cell 1
              have x2 := hx3.cell 2
              have x3 := hx3.cell 3
              have x4 := hx3.cell 4
              have x5 := hx3.cell 5
              have x6 := hx3.cell 6
              have x7 := hx3.cell 7
              have xf := hx3.frozen
              have xl := hx3.lt
              simp only [List.getElem?_toArray, List.getElem?_cons_zero, List.getElem?_cons_succ] at z0 z1 z2 z3 z4 z5 z6 z7 x0 x1 x2 x3 x4 x5 x6 x7
              have e1 := HW.out.zx
              have e2 := e1.symm
              have e3 := HW.out.bz
              have e4 := HW.out.bx
              have e5 := HW.out.wz
              have e6 := HW.out.wx
              clear hr3 hz3 hx3 hg3 hg2 hr2
              go_wp2
              refine bodyPost_ret (v := .tuple #[wordV (⟨4, ⟨#[]⟩, 0#256, v⟩) m, .bool true]) (by simp [results, Tryd.results13, go_sem, wordV, wordC, wz.1, wz.2.1, wz.2.2.1, wz.2.2.2, z0, z1, z2, z3, z4, z5, z6, z7]) rfl ?_
              refine HPost.out _ _ ⟨?_, rfl, ?_⟩
              · repeat (first | with_reducible exact HG3.out | with_reducible refine grown_drew ?_ | with_reducible refine grown_new ?_ (by assumption) _ _)
              · repeat (first | with_reducible exact HR3.out | with_reducible refine Blk.drew ?_ | with_reducible refine Blk.other ?_ (by assumption) _)
            | none =>
              have HX : Hid (nextW (t.data.toList.drop m) = none) := Lib.hid (HNx.out.trans rfl)
              clear HNx
              go_wp2
              go_region
              go_wp2
              go_region
              rw [← HWa.out]
              go_wp2_with (first | (go_at_call 23; refine (HD0.out _).mono ?_; rintro e w' ⟨rfl, rfl⟩) | (go_at_call 27; refine (HS0.out _).mono ?_; rintro e w' ⟨rfl, rfl⟩))
              refine (HC.out _ HW.out.r HW.out.gl).mono ?_
              rintro e w2 ⟨hg2, rfl, hr2⟩
              obtain ⟨hr3, _, _, hg3⟩ := HW.out.next hg2 hr2
              have HR3 := Lib.hid hr3
              have HG3 := Lib.hid hg3
              clear hr3 hg3 hg2 hr2
              go_wp2
              refine ⟨rfl, HPost.out _ _ ⟨HG3.out, ?_⟩⟩
              rw [HX.out]
              exact ⟨rfl, HR3.out⟩
          | false =>
            rw [hdg] at HD0
            by_cases cE : b = 34
            · have HNx : Hid (nextW (t.data.toList.drop m) = (textO (t.data.toList.drop (m + 1))).map fun p => (⟨2, bytesStr p.1, 0#256, 0⟩, 1 + p.2)) := Lib.hid (by rw [HNW.out, if_neg (by simp [hlet, cC]), hdg, if_neg (by simp), if_pos cE])
              clear HNW hlet cA cB cC hdg d5
              subst cE
              have HC := Lib.hid (fun W (hW : Rdr W B t m) (hGW : GlobD W) => readText_any B t m ht hlt W hGW hW)
              obtain ⟨o, ho⟩ : ∃ o, o = textO (t.data.toList.drop (m + 1)) := ⟨_, rfl⟩
              rw [← ho] at HC HNx
              clear ho
              cases o with
              | some v =>
                have HX : Hid (nextW (t.data.toList.drop m) = some (⟨2, bytesStr v.1, 0#256, 0⟩, 1 + v.2)) := Lib.hid (HNx.out.trans rfl)
                clear HNx
                go_wp2
                go_region
                go_wp2
                go_region
                rw [← HWa.out]
                go_wp2_with (first | (go_at_call 23; refine (HD0.out _).mono ?_; rintro e w' ⟨rfl, rfl⟩) | (go_at_call 27; refine (HS0.out _).mono ?_; rintro e w' ⟨rfl, rfl⟩))
                refine (HC.out _ HW.out.r HW.out.gl).mono ?_
                rintro e w2 ⟨hg2, rfl, hr2⟩
                have hr2 : Rdr w2 B t (m + (1 + v.2)) := by rw [← Nat.add_assoc]; exact hr2
                have HPost := Lib.hid (fun e w' h => HPost.out e w' (by rw [HX.out]; exact h))
                obtain ⟨hr3, hz3, hx3, hg3⟩ := HW.out.next hg2 hr2
                have HR3 := Lib.hid hr3
                have HG3 := Lib.hid hg3
                have z0 := hz3.cell 0
                have z1 := hz3.cell 1
                have z2 := hz3.cell 2
                have z3 := hz3.cell 3
                have z4 := hz3.cell 4
                have z5 := hz3.cell 5
                have z6 := hz3.cell 6
                have z7 := hz3.cell 7
                have zf := hz3.frozen
                have zl := hz3.lt
                have x0 := hx3.cell 0
                have x1 := hx3.cell 1
                have x2 := hx3.cell 2
                have x3 := hx3.cell 3
                have x4 := hx3.cell 4
                have x5 := hx3.cell 5
                have x6 := hx3.cell 6
                have x7 := hx3.cell 7
                have xf := hx3.frozen
                have xl := hx3.lt
                simp only [List.getElem?_toArray, List.getElem?_cons_zero, List.getElem?_cons_succ] at z0 z1 z2 z3 z4 z5 z6 z7 x0 x1 x2 x3 x4 x5 x6 x7
                have e1 := HW.out.zx
                have e2 := e1.symm
                have e3 := HW.out.bz
                have e4 := HW.out.bx
                have e5 := HW.out.wz
                have e6 := HW.out.wx
                clear hr3 hz3 hx3 hg3 hg2 hr2
                go_wp2
                refine bodyPost_ret (v := .tuple #[wordV (⟨2, bytesStr v.1, 0#256, 0⟩) m, .bool true]) (by simp [results, Tryd.results13, go_sem, wordV, wordC, wz.1, wz.2.1, wz.2.2.1, wz.2.2.2, z0, z1, z2, z3, z4, z5, z6, z7]) rfl ?_
                refine HPost.out _ _ ⟨?_, rfl, ?_⟩
                · repeat (first | with_reducible exact HG3.out | with_reducible refine grown_drew ?_ | with_reducible refine grown_new ?_ (by assumption) _ _)
                · repeat (first | with_reducible exact HR3.out | with_reducible refine Blk.drew ?_ | with_reducible refine Blk.other ?_ (by assumption) _)
              | none =>
                have HX : Hid (nextW (t.data.toList.drop m) = none) := Lib.hid (HNx.out.trans rfl)
                clear HNx
                go_wp2
                go_region
                go_wp2
                go_region
                rw [← HWa.out]
                go_wp2_with (first | (go_at_call 23; refine (HD0.out _).mono ?_; rintro e w' ⟨rfl, rfl⟩) | (go_at_call 27; refine (HS0.out _).mono ?_; rintro e w' ⟨rfl, rfl⟩))
                refine (HC.out _ HW.out.r HW.out.gl).mono ?_
                rintro e w2 ⟨hg2, rfl, hr2⟩
                obtain ⟨hr3, _, _, hg3⟩ := HW.out.next hg2 hr2
                have HR3 := Lib.hid hr3
                have HG3 := Lib.hid hg3
                clear hr3 hg3 hg2 hr2
                go_wp2
                refine ⟨rfl, HPost.out _ _ ⟨HG3.out, ?_⟩⟩
                rw [HX.out]
                exact ⟨rfl, HR3.out⟩
            · by_cases cF : b = 91
              · have HNx : Hid (nextW (t.data.toList.drop m) = (setO (t.data.toList.drop m)).map fun s => (⟨3, ⟨#[]⟩, s, 0⟩, setL (t.data.toList.drop m))) := Lib.hid (by rw [HNW.out, if_neg (by simp [hlet, cC]), hdg, if_neg (by simp), if_neg cE, if_pos cF])
                clear HNW hlet cA cB cC hdg d5 cE
                subst cF
                have HC := Lib.hid (fun W (hW : Rdr W B t m) (hGW : GlobD W) => readSet_any B t m ht hmt W hGW hW)
                obtain ⟨o, ho⟩ : ∃ o, o = setO (t.data.toList.drop m) := ⟨_, rfl⟩
                rw [← ho] at HC HNx
                clear ho
                cases o with
                | some v =>
                  have HX : Hid (nextW (t.data.toList.drop m) = some (⟨3, ⟨#[]⟩, v, 0⟩, setL (t.data.toList.drop m))) := Lib.hid (HNx.out.trans rfl)
                  clear HNx
                  go_wp2
                  go_region
                  go_wp2
                  go_region
                  rw [← HWa.out]
                  go_wp2_with (first | (go_at_call 23; refine (HD0.out _).mono ?_; rintro e w' ⟨rfl, rfl⟩) | (go_at_call 27; refine (HS0.out _).mono ?_; rintro e w' ⟨rfl, rfl⟩))
                  refine (HC.out _ HW.out.r HW.out.gl).mono ?_
                  rintro e w2 ⟨hg2, rfl, hr2⟩
                  have HPost := Lib.hid (fun e w' h => HPost.out e w' (by rw [HX.out]; exact h))
                  obtain ⟨hr3, hz3, hx3, hg3⟩ := HW.out.next hg2 hr2
                  have HR3 := Lib.hid hr3
                  have HG3 := Lib.hid hg3
                  have z0 := hz3.cell 0
                  have z1 := hz3.cell 1
                  have z2 := hz3.cell 2
                  have z3 := hz3.cell 3
                  have z4 := hz3.cell 4
                  have z5 := hz3.cell 5
                  have z6 := hz3.cell 6
                  have z7 := hz3.cell 7
                  have zf := hz3.frozen
                  have zl := hz3.lt
                  have x0 := hx3.cell 0
                  have x1 := hx3.cell 1
                  have x2 := hx3.cell 2
                  have x3 := hx3.cell 3
                  have x4 := hx3.cell 4
                  have x5 := hx3.cell 5
                  have x6 := hx3.cell 6
                  have x7 := hx3.cell 7
                  have xf := hx3.frozen
                  have xl := hx3.lt
                  simp only [List.getElem?_toArray, List.getElem?_cons_zero, List.getElem?_cons_succ] at z0 z1 z2 z3 z4 z5 z6 z7 x0 x1 x2 x3 x4 x5 x6 x7
                  have e1 := HW.out.zx
                  have e2 := e1.symm
                  have e3 := HW.out.bz
                  have e4 := HW.out.bx
                  have e5 := HW.out.wz
                  have e6 := HW.out.wx
                  clear hr3 hz3 hx3 hg3 hg2 hr2
                  unfold vset
                  go_wp2
                  refine bodyPost_ret (v := .tuple #[wordV (⟨3, ⟨#[]⟩, v, 0⟩) m, .bool true]) (by simp [results, Tryd.results13, go_sem, wordV, wordC, z0, z1, z2, z3, z4, z5, z6, z7]) rfl ?_
                  refine HPost.out _ _ ⟨?_, rfl, ?_⟩
                  · repeat (first | with_reducible exact HG3.out | with_reducible refine grown_drew ?_ | with_reducible refine grown_new ?_ (by assumption) _ _)
                  · repeat (first | with_reducible exact HR3.out | with_reducible refine Blk.drew ?_ | with_reducible refine Blk.other ?_ (by assumption) _)
                | none =>
                  have HX : Hid (nextW (t.data.toList.drop m) = none) := Lib.hid (HNx.out.trans rfl)
                  clear HNx
                  go_wp2
                  go_region
                  go_wp2
                  go_region
                  rw [← HWa.out]
                  go_wp2_with (first | (go_at_call 23; refine (HD0.out _).mono ?_; rintro e w' ⟨rfl, rfl⟩) | (go_at_call 27; refine (HS0.out _).mono ?_; rintro e w' ⟨rfl, rfl⟩))
                  refine (HC.out _ HW.out.r HW.out.gl).mono ?_
                  rintro e w2 ⟨hg2, rfl, hr2⟩
                  obtain ⟨hr3, _, _, hg3⟩ := HW.out.next hg2 hr2
                  have HR3 := Lib.hid hr3
                  have HG3 := Lib.hid hg3
                  clear hr3 hg3 hg2 hr2
                  go_wp2
                  refine ⟨rfl, HPost.out _ _ ⟨HG3.out, ?_⟩⟩
                  rw [HX.out]
                  exact ⟨rfl, HR3.out⟩
              · have d6 : ((b : Int) == 34) = false := by rw [beq_eq_false_iff_ne]; omega
                have d7 : ((b : Int) == 91) = false := by rw [beq_eq_false_iff_ne]; omega
                cases hsg : sgnB b with
                | true =>
                  rw [hsg] at HS0
                  have HX : Hid (nextW (t.data.toList.drop m) = some (⟨5, bytesOf ((t.data.toList.drop m).take 1), 0#256, 0⟩, 1)) := Lib.hid (by rw [HNW.out, if_neg (by simp [hlet, cC]), hdg, if_neg (by simp), if_neg cE, if_neg cF, if_pos hsg])
                  have HTk := Lib.hid (fun W hW => take_any B t m 1 ht (by omega) W hW)
                  clear HNW hlet hdg hsg
                  by_cases c1 : b < 65
                  · have d1 : ¬ (65 : Int) ≤ b := by omega
                    have d3 : ¬ (97 : Int) ≤ b := by omega
                    go_wp2
                    go_region
                    go_wp2
                    go_region
                    rw [← HWa.out]
                    go_wp2_with (first | (go_at_call 23; refine (HD0.out _).mono ?_; rintro e w' ⟨rfl, rfl⟩) | (go_at_call 27; refine (HS0.out _).mono ?_; rintro e w' ⟨rfl, rfl⟩))
                    refine (HTk.out _ HW.out.r).mono ?_
                    rintro e w2 ⟨rfl, hg2, hr2⟩
                    rw [cut_list]
                    have HPost := Lib.hid (fun e w' h => HPost.out e w' (by rw [HX.out]; exact h))
                    obtain ⟨hr3, hz3, hx3, hg3⟩ := HW.out.next hg2 hr2
                    have HR3 := Lib.hid hr3
                    have HG3 := Lib.hid hg3
                    have z0 := hz3.cell 0
                    have z1 := hz3.cell 1
                    have z2 := hz3.cell 2
                    have z3 := hz3.cell 3
                    have z4 := hz3.cell 4
                    have z5 := hz3.cell 5
                    have z6 := hz3.cell 6
                    have z7 := hz3.cell 7
                    have zf := hz3.frozen
                    have zl := hz3.lt
                    have x0 := hx3.cell 0
                    have x1 := hx3.cell 1
                    have x2 := hx3.cell 2
                    have x3 := hx3.cell 3
                    have x4 := hx3.cell 4
                    have x5 := hx3.cell 5
                    have x6 := hx3.cell 6
                    have x7 := hx3.cell 7
                    have xf := hx3.frozen
                    have xl := hx3.lt
                    simp only [List.getElem?_toArray, List.getElem?_cons_zero, List.getElem?_cons_succ] at z0 z1 z2 z3 z4 z5 z6 z7 x0 x1 x2 x3 x4 x5 x6 x7
                    have e1 := HW.out.zx
                    have e2 := e1.symm
                    have e3 := HW.out.bz
                    have e4 := HW.out.bx
                    have e5 := HW.out.wz
                    have e6 := HW.out.wx
                    clear hr3 hz3 hx3 hg3 hg2 hr2
                    go_wp2
                    refine bodyPost_ret (v := .tuple #[wordV ⟨5, bytesOf ((t.data.toList.drop m).take 1), 0#256, 0⟩ m, .bool true]) (by simp [results, Tryd.results13, go_sem, wordV, wordC, wz.1, wz.2.1, wz.2.2.1, wz.2.2.2, z0, z1, z2, z3, z4, z5, z6, z7]) rfl ?_
                    refine HPost.out _ _ ⟨?_, rfl, ?_⟩
                    · repeat (first | with_reducible exact HG3.out | with_reducible refine grown_drew ?_ | with_reducible refine grown_new ?_ (by assumption) _ _)
                    · repeat (first | with_reducible exact HR3.out | with_reducible refine Blk.drew ?_ | with_reducible refine Blk.other ?_ (by assumption) _)
                  · have d1 : (65 : Int) ≤ b := by omega
                    have d2 : ¬ (b : Int) ≤ 90 := by omega
                    by_cases c2 : b < 97
                    · have d3 : ¬ (97 : Int) ≤ b := by omega
                      go_wp2
                      go_region
                      go_wp2
                      go_region
                      rw [← HWa.out]
                      go_wp2_with (first | (go_at_call 23; refine (HD0.out _).mono ?_; rintro e w' ⟨rfl, rfl⟩) | (go_at_call 27; refine (HS0.out _).mono ?_; rintro e w' ⟨rfl, rfl⟩))
                      refine (HTk.out _ HW.out.r).mono ?_
                      rintro e w2 ⟨rfl, hg2, hr2⟩
                      rw [cut_list]
                      have HPost := Lib.hid (fun e w' h => HPost.out e w' (by rw [HX.out]; exact h))
                      obtain ⟨hr3, hz3, hx3, hg3⟩ := HW.out.next hg2 hr2
                      have HR3 := Lib.hid hr3
                      have HG3 := Lib.hid hg3
                      have z0 := hz3.cell 0
                      have z1 := hz3.cell 1
                      have z2 := hz3.cell 2
                      have z3 := hz3.cell 3
                      have z4 := hz3.cell 4
                      have z5 := hz3.cell 5
                      have z6 := hz3.cell 6
                      have z7 := hz3.cell 7
                      have zf := hz3.frozen
                      have zl := hz3.lt
                      have x0 := hx3.cell 0
                      have x1 := hx3.cell 1
                      have x2 := hx3.cell 2
                      have x3 := hx3.cell 3
                      have x4 := hx3.cell 4
                      have x5 := hx3.cell 5
                      have x6 := hx3.cell 6
                      have x7 := hx3.cell 7
                      have xf := hx3.frozen
                      have xl := hx3.lt
                      simp only [List.getElem?_toArray, List.getElem?_cons_zero, List.getElem?_cons_succ] at z0 z1 z2 z3 z4 z5 z6 z7 x0 x1 x2 x3 x4 x5 x6 x7
                      have e1 := HW.out.zx
                      have e2 := e1.symm
                      have e3 := HW.out.bz
                      have e4 := HW.out.bx
                      have e5 := HW.out.wz
                      have e6 := HW.out.wx
                      clear hr3 hz3 hx3 hg3 hg2 hr2
                      go_wp2
                      refine bodyPost_ret (v := .tuple #[wordV ⟨5, bytesOf ((t.data.toList.drop m).take 1), 0#256, 0⟩ m, .bool true]) (by simp [results, Tryd.results13, go_sem, wordV, wordC, wz.1, wz.2.1, wz.2.2.1, wz.2.2.2, z0, z1, z2, z3, z4, z5, z6, z7]) rfl ?_
                      refine HPost.out _ _ ⟨?_, rfl, ?_⟩
                      · repeat (first | with_reducible exact HG3.out | with_reducible refine grown_drew ?_ | with_reducible refine grown_new ?_ (by assumption) _ _)
                      · repeat (first | with_reducible exact HR3.out | with_reducible refine Blk.drew ?_ | with_reducible refine Blk.other ?_ (by assumption) _)
                    · have d3 : (97 : Int) ≤ b := by omega
                      have d4 : ¬ (b : Int) ≤ 122 := by omega
                      go_wp2
                      go_region
                      go_wp2
                      go_region
                      rw [← HWa.out]
                      go_wp2_with (first | (go_at_call 23; refine (HD0.out _).mono ?_; rintro e w' ⟨rfl, rfl⟩) | (go_at_call 27; refine (HS0.out _).mono ?_; rintro e w' ⟨rfl, rfl⟩))
                      refine (HTk.out _ HW.out.r).mono ?_
                      rintro e w2 ⟨rfl, hg2, hr2⟩
                      rw [cut_list]
                      have HPost := Lib.hid (fun e w' h => HPost.out e w' (by rw [HX.out]; exact h))
                      obtain ⟨hr3, hz3, hx3, hg3⟩ := HW.out.next hg2 hr2
                      have HR3 := Lib.hid hr3
                      have HG3 := Lib.hid hg3
                      have z0 := hz3.cell 0
                      have z1 := hz3.cell 1
                      have z2 := hz3.cell 2
                      have z3 := hz3.cell 3
                      have z4 := hz3.cell 4
                      have z5 := hz3.cell 5
                      have z6 := hz3.cell 6
                      have z7 := hz3.cell 7
                      have zf := hz3.frozen
                      have zl := hz3.lt
                      have x0 := hx3.cell 0
                      have x1 := hx3.cell 1
                      have x2 := hx3.cell 2
                      have x3 := hx3.cell 3
                      have x4 := hx3.cell 4
                      have x5 := hx3.cell 5
                      have x6 := hx3.cell 6
                      have x7 := hx3.cell 7
                      have xf := hx3.frozen
                      have xl := hx3.lt
                      simp only [List.getElem?_toArray, List.getElem?_cons_zero, List.getElem?_cons_succ] at z0 z1 z2 z3 z4 z5 z6 z7 x0 x1 x2 x3 x4 x5 x6 x7
                      have e1 := HW.out.zx
                      have e2 := e1.symm
                      have e3 := HW.out.bz
                      have e4 := HW.out.bx
                      have e5 := HW.out.wz
                      have e6 := HW.out.wx
                      clear hr3 hz3 hx3 hg3 hg2 hr2
                      go_wp2
                      refine bodyPost_ret (v := .tuple #[wordV ⟨5, bytesOf ((t.data.toList.drop m).take 1), 0#256, 0⟩ m, .bool true]) (by simp [results, Tryd.results13, go_sem, wordV, wordC, wz.1, wz.2.1, wz.2.2.1, wz.2.2.2, z0, z1, z2, z3, z4, z5, z6, z7]) rfl ?_
                      refine HPost.out _ _ ⟨?_, rfl, ?_⟩
                      · repeat (first | with_reducible exact HG3.out | with_reducible refine grown_drew ?_ | with_reducible refine grown_new ?_ (by assumption) _ _)
                      · repeat (first | with_reducible exact HR3.out | with_reducible refine Blk.drew ?_ | with_reducible refine Blk.other ?_ (by assumption) _)
                | false =>
                  rw [hsg] at HS0
                  have HX : Hid (nextW (t.data.toList.drop m) = none) := Lib.hid (by rw [HNW.out, if_neg (by simp [hlet, cC]), hdg, if_neg (by simp), if_neg cE, if_neg cF, hsg, if_neg (by simp)])
                  clear HNW hlet hdg hsg
                  by_cases c1 : b < 65
                  · have d1 : ¬ (65 : Int) ≤ b := by omega
                    have d3 : ¬ (97 : Int) ≤ b := by omega
                    go_wp2
                    go_region
                    go_wp2
                    go_region
                    rw [← HWa.out]
                    go_wp2_with (first | (go_at_call 23; refine (HD0.out _).mono ?_; rintro e w' ⟨rfl, rfl⟩) | (go_at_call 27; refine (HS0.out _).mono ?_; rintro e w' ⟨rfl, rfl⟩) | (go_at_call 29; refine (giveUp_any _ _).mono ?_; rintro e w' ⟨rfl, rfl⟩))
                    refine ⟨rfl, HPost.out _ _ ⟨HW.out.g, ?_⟩⟩
                    rw [HX.out]
                    exact ⟨rfl, HW.out.r⟩
                  · have d1 : (65 : Int) ≤ b := by omega
                    have d2 : ¬ (b : Int) ≤ 90 := by omega
                    by_cases c2 : b < 97
                    · have d3 : ¬ (97 : Int) ≤ b := by omega
                      go_wp2
                      go_region
                      go_wp2
                      go_region
                      rw [← HWa.out]
                      go_wp2_with (first | (go_at_call 23; refine (HD0.out _).mono ?_; rintro e w' ⟨rfl, rfl⟩) | (go_at_call 27; refine (HS0.out _).mono ?_; rintro e w' ⟨rfl, rfl⟩) | (go_at_call 29; refine (giveUp_any _ _).mono ?_; rintro e w' ⟨rfl, rfl⟩))
                      refine ⟨rfl, HPost.out _ _ ⟨HW.out.g, ?_⟩⟩
                      rw [HX.out]
                      exact ⟨rfl, HW.out.r⟩
                    · have d3 : (97 : Int) ≤ b := by omega
                      have d4 : ¬ (b : Int) ≤ 122 := by omega
                      go_wp2
                      go_region
                      go_wp2
                      go_region
                      rw [← HWa.out]
                      go_wp2_with (first | (go_at_call 23; refine (HD0.out _).mono ?_; rintro e w' ⟨rfl, rfl⟩) | (go_at_call 27; refine (HS0.out _).mono ?_; rintro e w' ⟨rfl, rfl⟩) | (go_at_call 29; refine (giveUp_any _ _).mono ?_; rintro e w' ⟨rfl, rfl⟩))
                      refine ⟨rfl, HPost.out _ _ ⟨HW.out.g, ?_⟩⟩
                      rw [HX.out]
                      exact ⟨rfl, HW.out.r⟩
end Go.Proofs.YtdodkbpagbblmaaDoor
