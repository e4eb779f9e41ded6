import Derived.Lib.AtoiBound
import Derived.Deep.RegionWith
import Derived.Test.YtdodkbpagbblmaaGreatDoorCards
import Derived.Test.YtdodkbpagbblmaaGreatDoorTie
import Derived.WalkKit
import Derived.ProofKit
import Derived.OpenShut
import Derived.LaidMore
import Derived.Deep.DeepHandedRow
import Derived.Lib.LaidTab
import Derived.Lib.LaidU8
import Derived.Below
import Derived.Carry
import Derived.Deep.DeepWitnessRowRef
import Derived.Test.YtdodkbpagbblmaaGreatDoorM4
section
namespace Go.Proofs.YtdodkbpagbblmaaGreatDoor
open Go Go.RowKit

theorem pow_global : Tryz.prog.globalNamed "internal/strconv.uint64pow10" = some 4 := by kernel_rfl
/-- What the program's variables hold, the powers of ten with them. -/
structure GlobD (w : World) : Prop where
  base : Glob w
  pow : Lib.TabIs Tryz.prog w "internal/strconv.uint64pow10" .u64 Lib.pow10Tab
  big : 4 < w.heap.size
theorem GlobD.below {w w' : World} {n : Nat} (h : GlobD w) (hn : w.heap.size ≤ n) (hB : Below n w w') : GlobD w' :=
  ⟨h.base.below hn hB, var?_below hB pow_global (Nat.lt_of_lt_of_le h.big hn) h.pow, Nat.lt_of_lt_of_le h.big hB.size⟩
theorem below_grow {w : World} (k : Nat) (os : Array Obj) : Below w.heap.size w (Sort.grow (w.drewN k) os) :=
  ⟨rfl, rfl, rfl, by show w.heap.size ≤ (w.heap ++ os).size; simp, fun i hi => by show (w.heap ++ os)[i]? = w.heap[i]?; rw [Array.getElem?_append_left hi]⟩

theorem itoa_any (v : Int) (h0 : -9223372036854775808 ≤ v) (h1 : v ≤ 9223372036854775807) (w : World) (hG : GlobD w) :
    Calls Tryz.prog 52 #[.int .i64 v] w fun e w' => e = .returned (.string ⟨(Lib.itoa v).toArray⟩) ∧ Below w.heap.size w w' :=
  (Tryz.strconv_Itoa v h0 h1 w hG.pow).mono fun e w' ⟨a, k, os, b⟩ => ⟨a, b ▸ below_grow k os⟩

/-- The number at a text's beginning. -/
def numO (l : List UInt8) : Option Int :=
  if runL l ≤ 9 then (match Lib.atoi (l.take (runL l)) with
    | some v => if Lib.itoa v = l.take (runL l) then some v else none
    | none => none) else none

/-- What a number's reading leaves. -/
def NumP (B : Nat) (t : ByteArray) (k q : Nat) (w : World) (v : Option Int) (e : Ending) (w' : World) : Prop :=
  w.grownBy w' (some B) ∧ match v with
    | some n => e = .returned (.int .i64 n) ∧ Rdr w' B t (k + q)
    | none => e = .panicked gone ∧ Rdr w' B t k

set_option maxRecDepth 100000 in
set_option maxHeartbeats 8000000 in
theorem readNumber_any (B : Nat) (t : ByteArray) (k : Nat) (ht : t.size ≤ 1048576) (hk : k ≤ t.size) (w : World) (hG : GlobD w) (hB : Rdr w B t k) :
    Calls Tryz.prog 39 #[.pointer (some ⟨B, 0, none⟩)] w (NumP B t k (runL (t.data.toList.drop k)) w (numO (t.data.toList.drop k))) := by
  have c0 : w.cell? ⟨B, 0, none⟩ = some (.string t) := hB.cell 0
  have c1 : w.cell? ⟨B, 1, none⟩ = some (.int .i64 (k : Int)) := hB.cell 1
  have n2 : (0 : Int) ≤ (k : Int) := by omega
  have n3 : (k : Int) ≤ (t.size : Int) := by omega
  have hsz : (t.extract k t.size).size = t.size - k := by rw [ByteArray.size_extract]; omega
  have hls : (t.extract k t.size).data.toList = t.data.toList.drop k := extract_drop t k
  have hrl := runL_le (t.data.toList.drop k)
  rw [drop_len] at hrl
  have HR := runLength_any (t.extract k t.size) (by omega)
  rw [hls] at HR
  obtain ⟨q, hq⟩ : ∃ q, q = runL (t.data.toList.drop k) := ⟨_, rfl⟩
  have hnO : numO (t.data.toList.drop k) = if q ≤ 9 then (match Lib.atoi ((t.data.toList.drop k).take q) with
    | some v => if Lib.itoa v = (t.data.toList.drop k).take q then some v else none
    | none => none) else none := by unfold numO; rw [hq]
  have hrx := rest_list t k q
  have hxs : ((t.extract k t.size).extract 0 q).size = q := by rw [ByteArray.size_extract]; omega
  rw [← hq] at hrl HR ⊢
  have HR := fun w' => Lib.hid (HR w')
  have HB := Lib.hid hB
  have hBd : Rdr w.drew B t k := hB
  have n4 : (q : Int) ≤ ((t.size - k : Nat) : Int) := by omega
  have n5 : (0 : Int) ≤ (q : Int) := by omega
  clear hq hls hB
  have HnO := Lib.hid hnO
  have Hrx := Lib.hid hrx
  clear hnO hrx
  by_cases h9 : q ≤ 9
  · have d9 : ¬ (9 : Int) < (q : Int) := by omega
    have HG0 := Lib.hid (hG.below (Nat.le_refl _) (Below.refl w.heap.size w).drew)
    obtain ⟨x, hx⟩ : ∃ x, x = (t.extract k t.size).extract 0 q := ⟨_, rfl⟩
    rw [← hx] at hxs Hrx
    cases ha : Lib.atoi ((t.data.toList.drop k).take q) with
    | none =>
      have HO : Hid (numO (t.data.toList.drop k) = none) := Lib.hid (by rw [HnO.out, if_pos h9, ha])
      obtain ⟨ev, hv, hev⟩ := HG0.out.base.2
      have HA := Tryz.strconv_Atoi_err x (by omega) (by rw [Hrx.out]; exact ha) ev w.drew hv hev
      rw [hx] at HA
      have HA := Lib.hid HA
      clear HnO Hrx ha hv hev hG hx hxs
      have HQ : Hid (NumP B t k q w (numO (t.data.toList.drop k)) = NumP B t k q w none) := Lib.hid (by rw [HO.out])
      rw [HQ.out]
      go_enter Tryz.func39, Tryz.ntmps39
      go_wp2
      go_region
      go_wp2_with (go_at_call 34; refine (HR _).out.mono ?_; rintro e w' ⟨rfl, rfl⟩)
      refine HA.out.mono ?_
      rintro e w1 ⟨N, rfl, hN, hN2, hB1⟩
      have hR1 := Lib.hid (Blk.below hBd hB1 hBd.lt)
      have hg1 : Hid (w.grownBy w1 (some B)) := Lib.hid (let h := grown_of_below' hB1 (some B); ⟨h.os, h.tape, h.output, h.size, h.block⟩)
      clear hN2 hB1 HA
      go_wp2
      go_region
      all_goals
        go_wp2_with (go_at_call 44; refine (giveUp_any _ _).mono ?_; rintro e w' ⟨rfl, rfl⟩)
        exact ⟨rfl, grown_drew hg1.out, rfl, hR1.out⟩
    | some v =>
      have hbd := Lib.atoi_bound ha (by rw [List.length_take]; omega)
      have HA := Tryz.strconv_Atoi x v (by omega) (by rw [Hrx.out]; exact ha) w.drew
      rw [hx] at HA
      have HA := Lib.hid HA
      have HIt := fun W (hW : GlobD W) => itoa_any v (by omega) (by omega) W hW
      have HIt := Lib.hid HIt
      have HX := Lib.hid (hx.symm.trans rfl)
      have Hsz0 := Lib.hid hxs
      by_cases hi : Lib.itoa v = (t.data.toList.drop k).take q
      · have HO : Hid (numO (t.data.toList.drop k) = some v) := Lib.hid (by rw [HnO.out, if_pos h9, ha]; simp only; rw [if_pos hi])
        have HQ : Hid (NumP B t k q w (numO (t.data.toList.drop k)) = NumP B t k q w (some v)) := Lib.hid (by rw [HO.out])
        rw [HQ.out]
        have hse : ((⟨(Lib.itoa v).toArray⟩ : ByteArray).toList == ((t.extract k t.size).extract 0 q).toList) = true := by
          rw [ByteArray.toList_eq, ByteArray.toList_eq, rest_list, hi]; simp
        have hsn : (Lib.itoa v == ((t.extract k t.size).extract 0 q).toList) = true := by
          rw [ByteArray.toList_eq, rest_list, hi]; simp
        clear HnO ha hx hxs hi hG
        go_enter Tryz.func39, Tryz.ntmps39
        go_wp2
        go_region
        go_wp2_with (go_at_call 34; refine (HR _).out.mono ?_; rintro e w' ⟨rfl, rfl⟩)
        refine HA.out.mono ?_
        rintro e w1 ⟨rfl, tt, rfl⟩
        have hB1 := Lib.bytesWorld_below w.drew 5 tt
        obtain ⟨w1, hw1⟩ : ∃ w1, w1 = Lib.bytesWorld w.drew 5 tt := ⟨_, rfl⟩
        rw [← hw1] at hB1 ⊢
        have HG1 := Lib.hid (HG0.out.below (Nat.le_refl _) hB1)
        have hR1 := Lib.hid (Blk.below hBd hB1 hBd.lt)
        have hg1 : Hid (w.grownBy w1 (some B)) := Lib.hid (let h := grown_of_below' hB1 (some B); ⟨h.os, h.tape, h.output, h.size, h.block⟩)
        clear hB1 HA hw1
        go_wp2
        go_region_held3 (fun _ => True) (exact trivial) (first | (go_at_call 52; (with_reducible refine (HIt.out _ (HG1.out.below (Nat.le_refl _) (Below.refl _ _).drew)).mono ?_); rintro e w' ⟨rfl, hB2⟩))
        all_goals
          have hB2 : Below w1.heap.size w1 w' := ⟨hB2.os, hB2.tape, hB2.output, hB2.size, hB2.block⟩
          have hR2 := Blk.below hR1.out hB2 hR1.out.lt
          have hS2 := Lib.hid (hR2.set 1 (.int .i64 ((k : Int) + q)))
          have hg2 := Lib.hid (grown_set (hg1.out.andThen (grown_of_below' hB2 (some B)) (fun j e => .inr e)) 1 (.int .i64 ((k : Int) + q)))
          have e1 : w'.cell? ⟨B, 1, none⟩ = some (.int .i64 (k : Int)) := hR2.cell 1
          have fz := hR2.frozen 1
          have hlt2 := hR2.lt
          clear hB2 hR2
          go_wp2
          go_ret
          exact ⟨hg2.out, rfl, hS2.out⟩
      · have HO : Hid (numO (t.data.toList.drop k) = none) := Lib.hid (by rw [HnO.out, if_pos h9, ha]; simp only; rw [if_neg hi])
        have HQ : Hid (NumP B t k q w (numO (t.data.toList.drop k)) = NumP B t k q w none) := Lib.hid (by rw [HO.out])
        rw [HQ.out]
        have hse : ((⟨(Lib.itoa v).toArray⟩ : ByteArray).toList == ((t.extract k t.size).extract 0 q).toList) = false := by
          rw [ByteArray.toList_eq, ByteArray.toList_eq, rest_list]; simpa using hi
        have hsn : (Lib.itoa v == ((t.extract k t.size).extract 0 q).toList) = false := by
          rw [ByteArray.toList_eq, rest_list]; simpa using hi
        clear HnO ha hx hxs hi hG
        go_enter Tryz.func39, Tryz.ntmps39
        go_wp2
        go_region
        go_wp2_with (go_at_call 34; refine (HR _).out.mono ?_; rintro e w' ⟨rfl, rfl⟩)
        refine HA.out.mono ?_
        rintro e w1 ⟨rfl, tt, rfl⟩
        have hB1 := Lib.bytesWorld_below w.drew 5 tt
        obtain ⟨w1, hw1⟩ : ∃ w1, w1 = Lib.bytesWorld w.drew 5 tt := ⟨_, rfl⟩
        rw [← hw1] at hB1 ⊢
        have HG1 := Lib.hid (HG0.out.below (Nat.le_refl _) hB1)
        have hR1 := Lib.hid (Blk.below hBd hB1 hBd.lt)
        have hg1 : Hid (w.grownBy w1 (some B)) := Lib.hid (let h := grown_of_below' hB1 (some B); ⟨h.os, h.tape, h.output, h.size, h.block⟩)
        clear hB1 HA hw1
        go_wp2
        go_region_held3 (fun _ => True) (exact trivial) (first | (go_at_call 52; (with_reducible refine (HIt.out _ (HG1.out.below (Nat.le_refl _) (Below.refl _ _).drew)).mono ?_); rintro e w' ⟨rfl, hB2⟩))
        all_goals
          have hB2 : Below w1.heap.size w1 w' := ⟨hB2.os, hB2.tape, hB2.output, hB2.size, hB2.block⟩
          have hR2 := Lib.hid (Blk.below hR1.out hB2 hR1.out.lt)
          have hg2 := Lib.hid (hg1.out.andThen (grown_of_below' hB2 (some B)) (fun j e => .inr e))
          clear hB2
          go_wp2_with (go_at_call 44; refine (giveUp_any _ _).mono ?_; rintro e w' ⟨rfl, rfl⟩)
          exact ⟨rfl, hg2.out, rfl, hR2.out⟩
  · have d9 : (9 : Int) < (q : Int) := by omega
    have HQ : Hid (NumP B t k q w (numO (t.data.toList.drop k)) = NumP B t k q w none) := Lib.hid (by rw [HnO.out, if_neg h9])
    rw [HQ.out]
    clear HnO Hrx hxs hG
    go_enter Tryz.func39, Tryz.ntmps39
    go_wp2
    go_region
    go_wp2_with (first | (go_at_call 34; refine (HR _).out.mono ?_; rintro e w' ⟨rfl, rfl⟩) | (go_at_call 44; refine (giveUp_any _ _).mono ?_; rintro e w' ⟨rfl, rfl⟩))
    exact ⟨rfl, grown_drew (grown_of_below' (Below.refl _ _) _), rfl, hBd⟩
end Go.Proofs.YtdodkbpagbblmaaGreatDoor
end
section
namespace Go.Proofs.YtdodkbpagbblmaaGreatDoor
open Go Go.RowKit

/-- The set at a text's beginning. -/
def setO (l : List UInt8) : Option BS := readS (l.take (setL l))
def SetP (B : Nat) (t : ByteArray) (k q : Nat) (w : World) (v : Option BS) (e : Ending) (w' : World) : Prop :=
  w.grownBy w' (some B) ∧ match v with
    | some s => e = .returned (vset s) ∧ Rdr w' B t (k + q)
    | none => e = .panicked gone ∧ Rdr w' B t k

theorem grown_next {w w1 w2 : World} {B : Nat} (h : w.grownBy w1 (some B)) (hB : Below w1.heap.size w1 w2) : w.grownBy w2 (some B) := h.andThen (grown_of_below' hB (some B)) (fun _ e => .inr e)

theorem grown_new {w W : World} {B b : Nat} (h : w.grownBy W (some B)) (hb : w.heap.size ≤ b) (i : Nat) (v : Value) : w.grownBy (W.setCell ⟨b, i, none⟩ v) (some B) :=
  ⟨h.os, h.tape, h.output, by simpa using h.size, fun k hk hne => by rw [Below.heap_setCell W ⟨b, i, none⟩ v k (by simp; omega)]; exact h.block k hk hne⟩

set_option maxRecDepth 100000 in
set_option maxHeartbeats 8000000 in
theorem readSet_any (B : Nat) (t : ByteArray) (k : Nat) (ht : t.size ≤ 1048576) (hk : k ≤ t.size) (w : World) (hG : GlobD w) (hB : Rdr w B t k) :
    Calls Tryz.prog 41 #[.pointer (some ⟨B, 0, none⟩)] w (SetP B t k (setL (t.data.toList.drop k)) w (setO (t.data.toList.drop k))) := by
  have c0 : w.cell? ⟨B, 0, none⟩ = some (.string t) := hB.cell 0
  have c1 : w.cell? ⟨B, 1, none⟩ = some (.int .i64 (k : Int)) := hB.cell 1
  have hltB := hB.lt
  have n2 : (0 : Int) ≤ (k : Int) := by omega
  have n3 : (k : Int) ≤ (t.size : Int) := by omega
  have hsz : (t.extract k t.size).size = t.size - k := by rw [ByteArray.size_extract]; omega
  have hls : (t.extract k t.size).data.toList = t.data.toList.drop k := extract_drop t k
  have hrl := setL_le _ (t.data.toList.drop k) (Nat.le_refl _)
  rw [drop_len] at hrl
  have HR := setLength_any (t.extract k t.size) (by omega)
  rw [hls] at HR
  obtain ⟨q, hq⟩ : ∃ q, q = setL (t.data.toList.drop k) := ⟨_, rfl⟩
  have hso : setO (t.data.toList.drop k) = readS ((t.data.toList.drop k).take q) := by unfold setO; rw [hq]
  rw [← hq] at hrl HR ⊢
  rw [hso]
  have HRd := fun W (hW : Glob W) => read_any ((t.extract k t.size).extract 0 q) (by rw [ByteArray.size_extract]; omega) W hW
  rw [rest_list] at HRd
  obtain ⟨o, ho⟩ : ∃ o, o = readS ((t.data.toList.drop k).take q) := ⟨_, rfl⟩
  rw [← ho] at HRd ⊢
  have HR := fun w' => Lib.hid (HR w')
  have n4 : (q : Int) ≤ ((t.size - k : Nat) : Int) := by omega
  have n5 : (0 : Int) ≤ (q : Int) := by omega
  have hB1 : Below w.heap.size w (w.alloc (.cells #[.int .u64 0, .int .u64 0, .int .u64 0, .int .u64 0] 33)).drew := ((Below.refl _ w).alloc (Nat.le_refl _) _).drew
  obtain ⟨wa, hwa⟩ : ∃ wa, wa = (w.alloc (.cells #[.int .u64 0, .int .u64 0, .int .u64 0, .int .u64 0] 33)).drew := ⟨_, rfl⟩
  have HGa := Lib.hid (hG.below (Nat.le_refl _) hB1)
  have HRa := Lib.hid (Blk.below hB hB1 hB.lt)
  have Hga := Lib.hid (grown_of_below' hB1 (some B))
  have HZ : Hid (Blk (w.alloc (.cells #[.int .u64 0, .int .u64 0, .int .u64 0, .int .u64 0] 33)).drew w.heap.size 33 #[.int .u64 0, .int .u64 0, .int .u64 0, .int .u64 0]) := Lib.hid (Blk.new w 33 _)
  rw [← hwa] at HGa HRa Hga HZ
  have HWa := Lib.hid hwa
  have HRd := Lib.hid HRd
  clear hq hls hB ho hso hB1 hwa hG
  cases o with
  | none =>
    go_enter Tryz.func41, Tryz.ntmps41
    go_wp2
    go_region
    rw [← HWa.out]
    go_wp2_with (go_at_call 60; refine (HR _).out.mono ?_; rintro e w' ⟨rfl, rfl⟩)
    refine (HRd.out wa HGa.out.base).mono ?_
    rintro e w1 ⟨rfl, hB1⟩
    have HR1 := Lib.hid (Blk.below HRa.out hB1 HRa.out.lt)
    have Hg1 := Lib.hid (grown_next Hga.out hB1)
    clear hB1
    unfold readV
    go_wp2_with (go_at_call 44; refine (giveUp_any _ _).mono ?_; rintro e w' ⟨rfl, rfl⟩)
    exact ⟨rfl, grown_next Hg1.out ((Below.refl _ w1).alloc (Nat.le_refl _) _), rfl, HR1.out.alloc _⟩
  | some s =>
    go_enter Tryz.func41, Tryz.ntmps41
    go_wp2
    go_region
    rw [← HWa.out]
    go_wp2_with (go_at_call 60; refine (HR _).out.mono ?_; rintro e w' ⟨rfl, rfl⟩)
    refine (HRd.out wa HGa.out.base).mono ?_
    rintro e w1 ⟨rfl, hB1⟩
    have HR1 := Lib.hid (Blk.below HRa.out hB1 HRa.out.lt)
    have Hg1 := Lib.hid (grown_next Hga.out hB1)
    have HZ1 := Lib.hid (Blk.below HZ.out hB1 HZ.out.lt)
    clear hB1
    have r1 : w1.cell? ⟨B, 1, none⟩ = some (.int .i64 (k : Int)) := HR1.out.cell 1
    have rf := HR1.out.frozen 1
    have rl := HR1.out.lt
    have zl := HZ1.out.lt
    have z0 : w1.cell? ⟨w.heap.size, 0, none⟩ = some (.int .u64 0) := HZ1.out.cell 0
    have z1 : w1.cell? ⟨w.heap.size, 1, none⟩ = some (.int .u64 0) := HZ1.out.cell 1
    have z2 : w1.cell? ⟨w.heap.size, 2, none⟩ = some (.int .u64 0) := HZ1.out.cell 2
    have z3 : w1.cell? ⟨w.heap.size, 3, none⟩ = some (.int .u64 0) := HZ1.out.cell 3
    have y0 := HZ1.out.frozen 0
    have y1 := HZ1.out.frozen 1
    have y2 := HZ1.out.frozen 2
    have y3 := HZ1.out.frozen 3
    have hne : ¬ B = w.heap.size := by omega
    have hne2 : ¬ w.heap.size = B := by omega
    unfold readV vset
    go_wp2
    refine bodyPost_ret (v := vset s) (by simp [results, Tryz.results41, go_sem, vset, z0, z1, z2, z3, y0, y1, y2, y3, zl, rl, hne, hne2]) rfl ⟨?_, rfl, ?_⟩
    · have g1 := grown_set Hg1.out 1 (.int .i64 ((k : Int) + q))
      have g2 := grown_new (grown_new (grown_new (grown_new g1 (Nat.le_refl _) 0 (.int .u64 (wdI s 0))) (Nat.le_refl _) 1 (.int .u64 (wdI s 1))) (Nat.le_refl _) 2 (.int .u64 (wdI s 2))) (Nat.le_refl _) 3 (.int .u64 (wdI s 3))
      exact grown_next g2 ((Below.refl _ _).alloc (Nat.le_refl _) _)
    · have h1 := HR1.out.set 1 (.int .i64 ((k : Int) + q))
      exact ((((h1.other (a := ⟨w.heap.size, 0, none⟩) hne _).other (a := ⟨w.heap.size, 1, none⟩) hne _).other (a := ⟨w.heap.size, 2, none⟩) hne _).other (a := ⟨w.heap.size, 3, none⟩) hne _).alloc _

/-! ### texts between two quotes -/
/-- The bytes of a text up to the quote, and how far it goes, the quote with it. -/
def textF : Nat → List UInt8 → Option (List Nat × Nat)
  | 0, _ => none
  | f + 1, l => if Lib.hasPrefix l [34] then some ([], 1) else if (byteD l).2 = 0 then none else (textF f (l.drop (byteD l).2)).map fun p => ((byteD l).1 :: p.1, (byteD l).2 + p.2)
def textO (l : List UInt8) : Option (List Nat × Nat) := textF (l.length + 1) l
theorem escD_lt (l : List UInt8) : (escD l).1 < 256 ∧ (escD l).2 ≤ l.length := by
  unfold escD
  split
  · rename_i b r
    have hb := b.toNat_lt
    split
    · simp
    · split
      · simp
      · split
        · simp
        · split
          · simp; omega
          · split
            · rename_i h
              split
              · simp; omega
              · simp
            · simp
  · simp
theorem byteD_lt (l : List UInt8) : (byteD l).1 < 256 ∧ (byteD l).2 ≤ l.length := by
  unfold byteD
  split
  · simp
  · rename_i c r
    have := escD_lt (c :: r)
    have hb := c.toNat_lt
    split
    · exact this
    · split
      · simp; omega
      · simp
theorem textF_more : ∀ (n : Nat) (l : List UInt8), l.length ≤ n → ∀ f, l.length + 1 ≤ f → textF f l = textF (l.length + 1) l := by
  intro n
  induction n with
  | zero =>
    intro l hl f hf
    have : l = [] := List.length_eq_zero_iff.1 (by omega)
    subst this
    obtain ⟨g, rfl⟩ : ∃ g, f = g + 1 := ⟨f - 1, by simp at hf; omega⟩
    rfl
  | succ n ih =>
    intro l hl f hf
    obtain ⟨g, rfl⟩ : ∃ g, f = g + 1 := ⟨f - 1, by omega⟩
    unfold textF
    split
    · rfl
    · split
      · rfl
      · have h1 := (byteD_lt l).2
        have hd : (l.drop (byteD l).2).length + 1 ≤ l.length := by rw [List.length_drop]; omega
        rw [ih _ (by omega) g (by omega), ih _ (by omega) l.length hd]
theorem textO_end (l : List UInt8) (h : Lib.hasPrefix l [34] = true) : textO l = some ([], 1) := by
  unfold textO textF; rw [if_pos h]
theorem textO_bad (l : List UInt8) (h : Lib.hasPrefix l [34] = false) (h0 : (byteD l).2 = 0) : textO l = none := by
  unfold textO textF; simp [h, h0]
theorem textO_step (l : List UInt8) (h : Lib.hasPrefix l [34] = false) (h0 : (byteD l).2 ≠ 0) : textO l = (textO (l.drop (byteD l).2)).map fun p => ((byteD l).1 :: p.1, (byteD l).2 + p.2) := by
  have h1 := (byteD_lt l).2
  have hd : (l.drop (byteD l).2).length + 1 ≤ l.length := by rw [List.length_drop]; omega
  unfold textO
  conv => lhs; unfold textF
  simp only [h, h0, Bool.false_eq_true, if_false]
  rw [textF_more l.length _ (by omega) l.length hd]
end Go.Proofs.YtdodkbpagbblmaaGreatDoor
end
section
namespace Go.Proofs.YtdodkbpagbblmaaGreatDoor
open Go Go.RowKit

def TxtP (B : Nat) (t : ByteArray) (k : Nat) (w : World) (v : Option (List Nat × Nat)) (e : Ending) (w' : World) : Prop :=
  w.grownBy w' (some B) ∧ match v with
    | some p => e = .returned (.string (bytesStr p.1)) ∧ Rdr w' B t (k + 1 + p.2)
    | none => e = .panicked gone ∧ Rdr w' B t k

theorem conv_nil (w : World) : (convert 58 9 (.slice none 0 0)).run Tryz.prog w = .ok (.string (bytesStr [])) w := by kernel_rfl
theorem conv_any {n₀ : Nat} (v : Value) (w : World) (l : List Nat) (ho : w.ownsRow n₀ 5 1 v l.length (l.map byteV)) :
    (convert 58 9 v).run Tryz.prog w = .ok (.string (bytesStr l)) w := by
  rcases ho.2 with ⟨rfl, h0⟩ | ⟨g, cap, cur, rfl, _⟩
  · have : l = [] := List.length_eq_zero_iff.1 h0
    subst this
    exact conv_nil w
  · exact conv_own g cap w l l.length rfl ho

theorem ext_list (r : ByteArray) (n : Nat) : (r.extract n r.size).data.toList = r.data.toList.drop n := extract_drop r n

set_option maxRecDepth 100000 in
set_option maxHeartbeats 8000000 in
theorem readText_any (B : Nat) (t : ByteArray) (k : Nat) (ht : t.size ≤ 1048576) (hk : k < t.size) (w : World) (hG : GlobD w) (hB : Rdr w B t k) :
    Calls Tryz.prog 40 #[.pointer (some ⟨B, 0, none⟩)] w (TxtP B t k w (textO (t.data.toList.drop (k + 1)))) := by
  obtain ⟨i0, hi, hz0, hz1, hz2⟩ := info_parts Tryz.info5
  have c0 : w.cell? ⟨B, 0, none⟩ = some (.string t) := hB.cell 0
  have c1 : w.cell? ⟨B, 1, none⟩ = some (.int .i64 (k : Int)) := hB.cell 1
  have hltB := hB.lt
  have n2 : (0 : Int) ≤ (k : Int) := by omega
  have n3 : (k : Int) + 1 ≤ (t.size : Int) := by omega
  have n4 : (0 : Int) ≤ (k : Int) + 1 := by omega
  have hw1 : IntKind.i64.wrap ((k : Int) + 1) = (k : Int) + 1 := IntWalk.i64_in _ (by omega)
  have hw2 : ((k : Int) + 1).toNat = k + 1 := by omega
  have HG := Lib.hid hG
  have HB := Lib.hid hB
  have hls : (t.extract (k + 1) t.size).data.toList = t.data.toList.drop (k + 1) := extract_drop t (k + 1)
  have Hls := Lib.hid hls
  have hO0 : Hid (w.drew.ownsRow w.heap.size 5 1 (.slice none 0 0) ([] : List Nat).length (([] : List Nat).map byteV)) := World.ownsRow_nil _ _ _ _
  have hB0 : Hid (Below w.heap.size w w.drew) := (Below.refl _ w).drew
  clear hG hB hls
  go_enter Tryz.func40, Tryz.ntmps40
  go_wp2
  go_region
  clear hw1 hw2
  go_wp2
  go_loopg [3, 4, 5, 6] (t.size - (k + 1)) (fun n v r x y wr => ∃ (j : Nat) (bs : List Nat) (rs : ByteArray), r = .string rs ∧ k + 1 ≤ j ∧ j ≤ t.size ∧ n = t.size - j ∧ Hid (rs.data.toList = t.data.toList.drop j) ∧ bs.length ≤ j
      ∧ Hid (textO (t.data.toList.drop (k + 1)) = (textO (t.data.toList.drop j)).map fun p => (bs ++ p.1, (j - (k + 1)) + p.2)) ∧ Hid (wr.ownsRow w.heap.size 5 1 v bs.length (bs.map byteV)) ∧ Hid (Below w.heap.size w wr))
  case atStart => exact ⟨k + 1, [], _, rfl, Nat.le_refl _, by omega, rfl, Hls, by simp, Lib.hid (by simp), hO0, hB0⟩
  case round =>
    clear hO0 hB0 Hls
    obtain ⟨j, bs, rs, rfl, hj1, hj2, rfl, hrs, hbs, hT, hO, hB⟩ := hrel
    have hsz : rs.size = t.size - j := by rw [Lib.size_eq, hrs.out, drop_len]
    have HP := Tryz.strings_HasPrefix rs ⟨#[34]⟩
    have hp2 : (⟨#[34]⟩ : ByteArray).data.toList = [34] := rfl
    rw [hp2, hrs.out] at HP
    have hHG := HG.out.below (Nat.le_refl _) hB.out
    have HBy := rdByte_any rs (by omega) wr hHG.base
    rw [hrs.out] at HBy
    cases hpp : Lib.hasPrefix (t.data.toList.drop j) [34] with
    | true =>
      rw [hpp] at HP
      have HP := fun w' => Lib.hid (HP w')
      have HN : Hid (textO (t.data.toList.drop (k + 1)) = some (bs, j - (k + 1) + 1)) := Lib.hid (by rw [hT.out, textO_end _ hpp]; simp)
      have hR := Blk.below HB.out hB.out HB.out.lt
      have r0 : wr.cell? ⟨B, 0, none⟩ = some (.string t) := hR.cell 0
      have r1 : wr.cell? ⟨B, 1, none⟩ = some (.int .i64 (k : Int)) := hR.cell 1
      have rf := hR.frozen 1
      have rl := hR.lt
      have hS := Lib.hid (hR.set 1 (.int .i64 ((j : Int) + 1)))
      have hg := Lib.hid (grown_set (grown_of_below' hB.out (some B)) 1 (.int .i64 ((j : Int) + 1)))
      have HCv := fun W (h : W.ownsRow w.heap.size 5 1 u3 bs.length (bs.map byteV)) => conv_any u3 W bs h
      have hO2 : (wr.setCell ⟨B, 1, none⟩ (.int .i64 ((j : Int) + 1))).ownsRow w.heap.size 5 1 u3 bs.length (bs.map byteV) := by
        refine hO.out.kept (grown_set (grown_of_below' (Below.refl wr.heap.size wr) (some B)) 1 _) (.inr ?_)
        intro e
        have := (hO.out.lt B e).1
        omega
      have hc := HCv _ hO2
      have hsI : (t.size : Int) - (rs.size : Int) = (j : Int) := by omega
      have eN : k + 1 + (j - (k + 1) + 1) = j + 1 := by omega
      have HQ : Hid (TxtP B t k w (textO (t.data.toList.drop (k + 1))) = TxtP B t k w (some (bs, j - (k + 1) + 1))) := Lib.hid (by rw [HN.out])
      have EN := Lib.hid eN
      have n6 : (j : Int) ≤ (t.size : Int) := by omega
      have n7 : (0 : Int) ≤ (j : Int) := by omega
      clear hpp hT hR HN hO2 HCv eN hHG HBy hsz
      go_wp2_with (go_at_call 56; refine (HP _).out.mono ?_; rintro e w' ⟨rfl, rfl⟩)
      go_ret
      show TxtP B t k w (textO (t.data.toList.drop (k + 1))) _ _
      rw [HQ.out]
      exact ⟨hg.out, rfl, by rw [EN.out]; exact hS.out⟩
    | false =>
      rw [hpp] at HP
      have HP := fun w' => Lib.hid (HP w')
      by_cases h0 : (byteD (t.data.toList.drop j)).2 = 0
      · have HN : Hid (textO (t.data.toList.drop (k + 1)) = none) := Lib.hid (by rw [hT.out, textO_bad _ hpp h0]; rfl)
        have HQ : Hid (TxtP B t k w (textO (t.data.toList.drop (k + 1))) = TxtP B t k w none) := Lib.hid (by rw [HN.out])
        rw [h0] at HBy
        have HBy := Lib.hid HBy
        clear hpp hT h0 HN hsz
        go_wp2_with (go_at_call 56; refine (HP _).out.mono ?_; rintro e w' ⟨rfl, rfl⟩)
        refine HBy.out.mono ?_
        rintro e w1 ⟨rfl, hB1⟩
        have hBB := hB.out.trans (hB1.mono hB.out.size)
        have hR := Lib.hid (Blk.below HB.out hBB HB.out.lt)
        have hg := Lib.hid (grown_of_below' hBB (some B))
        clear hB1 hBB HBy
        go_wp2_with (go_at_call 44; refine (giveUp_any _ _).mono ?_; rintro e w' ⟨rfl, rfl⟩)
        refine ⟨rfl, ?_⟩
        show TxtP B t k w (textO (t.data.toList.drop (k + 1))) _ _
        rw [HQ.out]
        exact ⟨hg.out, rfl, hR.out⟩
      · have hbd := byteD_lt (t.data.toList.drop j)
        rw [drop_len] at hbd
        have hTS := textO_step _ hpp h0
        rw [List.drop_drop] at hTS
        obtain ⟨b, hb⟩ : ∃ b, b = (byteD (t.data.toList.drop j)).1 := ⟨_, rfl⟩
        obtain ⟨n, hn⟩ : ∃ n, n = (byteD (t.data.toList.drop j)).2 := ⟨_, rfl⟩
        rw [← hb, ← hn] at HBy hTS hbd
        rw [← hn] at h0
        have HT2 : Hid (textO (t.data.toList.drop (k + 1)) = (textO (t.data.toList.drop (j + n))).map fun p => ((bs ++ [b]) ++ p.1, (j + n - (k + 1)) + p.2)) := by
          refine Lib.hid ?_
          rw [hT.out, hTS, Option.map_map]
          congr 1
          funext p
          simp only [Function.comp]
          rw [List.append_assoc]
          congr 1
          omega
        have hrs2 : Hid ((rs.extract n rs.size).data.toList = t.data.toList.drop (j + n)) := Lib.hid (by rw [ext_list, hrs.out, List.drop_drop])
        have d0 : ¬ (n : Int) = 0 := by omega
        have HBy := Lib.hid HBy
        have m1 : (n : Int) ≤ (rs.size : Int) := by omega
        have m2 : (0 : Int) ≤ (n : Int) := by omega
        have hszr : w.heap.size ≤ wr.heap.size := hB.out.size
        clear hpp hT hTS hb hn hsz
        go_wp2_with (go_at_call 56; refine (HP _).out.mono ?_; rintro e w' ⟨rfl, rfl⟩)
        refine HBy.out.mono ?_
        rintro e w1 ⟨rfl, hB1⟩
        have hO1 := Lib.hid (own_below hO.out hB1 (Nat.le_refl _))
        have hB1' := Lib.hid (hB.out.trans (hB1.mono hB.out.size))
        have hsz1 : w.heap.size ≤ w1.heap.size := hB1'.out.size
        clear hB1 HBy hO hB
        go_wp2_with (at_builtin; refine wpList_append_own _ rfl _ _ 58 rfl w.heap.size 5 i0 (.int .u8 0) 1 1 Tryz.underlying58 hi hz0 hz1 hz2 rfl (by decide) _ _ _ rfl (hO1.out.alloc _) ⟨w1.heap.size, 0, none⟩ 1 1 [.int .u8 b] rfl rfl (cell_one_new _ _ _) (by simp [Value.oneCell']) (by unfold maxLen; omega) (by omega) (by simp; omega) ?_; intro v2 w2 hown2 hgrow _)
        have hf2 := own_fin (hO1.out.alloc (.cells #[.int .u8 b] 5)) ((Lib.OthersKept.refl 5 none w1).alloc _) ((Below.refl w.heap.size w1).alloc hsz1 _) hsz1 hgrow
        have hO2 : Hid (w2.ownsRow w.heap.size 5 1 v2 (bs ++ [b]).length ((bs ++ [b]).map byteV)) := by
          refine Lib.hid ?_
          have a1 : (bs ++ [b]).length = bs.length + 1 := by simp
          have a2 : (bs ++ [b]).map byteV = bs.map byteV ++ [.int .u8 b] := by simp [byteV]
          rw [a1, a2]; exact hown2
        have hB2 := Lib.hid (hB1'.out.trans hf2.2)
        clear hown2 hgrow hf2
        go_wp2
        go_roundg (t.size - (j + n))
        case measure => omega
        case rel => exact ⟨j + n, bs ++ [b], _, rfl, by omega, by omega, rfl, hrs2, by simp; omega, HT2, hO2, hB2⟩
end Go.Proofs.YtdodkbpagbblmaaGreatDoor
end
section
namespace Go.Proofs.YtdodkbpagbblmaaGreatDoor
open Go Go.RowKit

/-- A word, but for its place. -/
structure Wd where
  kind : Int
  txt : ByteArray
  set : BS
  num : Int
def wordC (x : Wd) (a : Int) : Array Value := #[.int .i64 x.kind, .int .i64 a, .string x.txt, .int .u64 (wdI x.set 0), .int .u64 (wdI x.set 1), .int .u64 (wdI x.set 2), .int .u64 (wdI x.set 3), .int .i64 x.num]
def wordV (x : Wd) (a : Int) : Value := .agg (wordC x a)
def noWd : Wd := ⟨0, ⟨#[]⟩, 0#256, 0⟩
def bytesOf (l : List UInt8) : ByteArray := ⟨l.toArray⟩

/-- The word at a text's beginning, and how long it is. -/
def nextW : List UInt8 → Option (Wd × Nat)
  | [] => none
  | c :: r =>
    if letB c.toNat || decide (c.toNat = 95) then
      (if nameB ((c :: r).take (runL (c :: r))) then some (⟨1, bytesOf ((c :: r).take (runL (c :: r))), 0#256, 0⟩, runL (c :: r)) else none)
    else if digB c.toNat then (numO (c :: r)).map fun v => (⟨4, ⟨#[]⟩, 0#256, v⟩, runL (c :: r))
    else if c.toNat = 34 then (textO r).map fun p => (⟨2, bytesStr p.1, 0#256, 0⟩, 1 + p.2)
    else if c.toNat = 91 then (setO (c :: r)).map fun s => (⟨3, ⟨#[]⟩, s, 0⟩, setL (c :: r))
    else if sgnB c.toNat then some (⟨5, bytesOf [c], 0#256, 0⟩, 1)
    else none

theorem cut_list (t : ByteArray) (k n : Nat) : cutS t k n = bytesOf ((t.data.toList.drop k).take n) := by
  apply WideShapes.bytes_inj
  unfold cutS bytesOf
  rw [ByteArray.data_extract, Array.toList_extract, List.extract_eq_take_drop]
  simp

def NextP (B : Nat) (t : ByteArray) (k : Nat) (w : World) (e : Ending) (w' : World) : Prop :=
  w.grownBy w' (some B) ∧ (if k = t.size then e = .returned (.tuple #[wordV noWd 0, .bool false]) ∧ Rdr w' B t k
    else match nextW (t.data.toList.drop k) with
    | some p => e = .returned (.tuple #[wordV p.1 k, .bool true]) ∧ Rdr w' B t (k + p.2)
    | none => e = .panicked gone ∧ Rdr w' B t k)

theorem wz : wdI 0#256 0 = 0 ∧ wdI 0#256 1 = 0 ∧ wdI 0#256 2 = 0 ∧ wdI 0#256 3 = 0 := by decide

theorem nextW_of (l : List UInt8) (c : UInt8) (r : List UInt8) (h : l = c :: r) (b : Nat) (hb : c.toNat = b) : nextW l =
    if letB b || decide (b = 95) then
      (if nameB (l.take (runL l)) then some (⟨1, bytesOf (l.take (runL l)), 0#256, 0⟩, runL l) else none)
    else if digB b then (numO l).map fun v => (⟨4, ⟨#[]⟩, 0#256, v⟩, runL l)
    else if b = 34 then (textO r).map fun p => (⟨2, bytesStr p.1, 0#256, 0⟩, 1 + p.2)
    else if b = 91 then (setO l).map fun s => (⟨3, ⟨#[]⟩, s, 0⟩, setL l)
    else if sgnB b then some (⟨5, bytesOf (l.take 1), 0#256, 0⟩, 1)
    else none := by
  subst h; subst hb; rfl
theorem GlobD.at5 {w w' : World} (h : GlobD w) (h5 : ∀ i, i < 5 → w'.heap[i]? = w.heap[i]?) (hs : w.heap.size ≤ w'.heap.size) : GlobD w' := by
  obtain ⟨⟨h1, ev, h2, h3⟩, hp, hb⟩ := h
  refine ⟨⟨fun j hj => ?_, ev, ?_, h3⟩, ?_, Nat.lt_of_lt_of_le hb hs⟩
  · rw [World.cell?_of_block (w := w) (h5 3 (by omega))]; exact h1 j hj
  · rw [World.cell?_of_block (w := w) (h5 1 (by omega))]; exact h2
  · unfold Lib.TabIs World.var? at hp ⊢
    rw [pow_global] at hp ⊢
    simp only [Option.bind_some] at hp ⊢
    rw [h5 4 (by omega)]
    exact hp
theorem GlobD.grown {w w' : World} {B : Nat} (h : GlobD w) (hg : w.grownBy w' (some B)) (hB : 4 < B) : GlobD w' :=
  h.at5 (fun i hi => hg.block i (by have := h.big; omega) (by simp; omega)) hg.size

/-- The switch's world: the result's block Z, the word's X, the reader's B. -/
structure SwW (W w : World) (B Z X : Nat) (t : ByteArray) (m : Nat) : Prop where
  r : Rdr W B t m
  z : Blk W Z 35 #[.int .i64 0, .int .i64 0, .string ⟨#[]⟩, .int .u64 0, .int .u64 0, .int .u64 0, .int .u64 0, .int .i64 0]
  x : Blk W X 35 #[.int .i64 0, .int .i64 (m : Int), .string ⟨#[]⟩, .int .u64 0, .int .u64 0, .int .u64 0, .int .u64 0, .int .i64 0]
  g : w.grownBy W (some B)
  bz : B ≠ Z
  bx : B ≠ X
  zx : Z ≠ X
  wz : w.heap.size ≤ Z
  wx : w.heap.size ≤ X
  gl : GlobD W
theorem SwW.next {W W' w : World} {B Z X m n : Nat} {t : ByteArray} (h : SwW W w B Z X t m) (hg : W.grownBy W' (some B)) (hr : Rdr W' B t n) :
    Rdr W' B t n ∧ Blk W' Z 35 #[.int .i64 0, .int .i64 0, .string ⟨#[]⟩, .int .u64 0, .int .u64 0, .int .u64 0, .int .u64 0, .int .i64 0] ∧ Blk W' X 35 #[.int .i64 0, .int .i64 (m : Int), .string ⟨#[]⟩, .int .u64 0, .int .u64 0, .int .u64 0, .int .u64 0, .int .i64 0] ∧ w.grownBy W' (some B) :=
  ⟨hr, h.z.kept hg (by simp; exact fun e => h.bz e.symm), h.x.kept hg (by simp; exact fun e => h.bx e.symm), h.g.andThen hg (fun _ e => .inr e)⟩

set_option maxRecDepth 100000 in
set_option maxHeartbeats 16000000 in
theorem next_any (B : Nat) (t : ByteArray) (k : Nat) (ht : t.size ≤ 1048576) (hk : k ≤ t.size) (w : World) (hG : GlobD w) (hB : Rdr w B t k) (hB4 : 4 < B) :
    Calls Tryz.prog 21 #[.pointer (some ⟨B, 0, none⟩)] w (NextP B t (k + skipL (t.data.toList.drop k)) w) := by
  have hsk := skipL_le (t.data.toList.drop k)
  rw [drop_len] at hsk
  have HG := Lib.hid hG
  have hA0 : Below w.heap.size w (w.alloc (.cells #[.int .i64 0, .int .i64 0, .string ⟨#[]⟩, .int .u64 0, .int .u64 0, .int .u64 0, .int .u64 0, .int .i64 0] 35)) := (Below.refl _ w).alloc (Nat.le_refl _) _
  have hB0 := Blk.below hB hA0 hB.lt
  have HP := Lib.hid (passBlanks_any B t k ht hk _ hB0)
  obtain ⟨m, hm⟩ : ∃ m, m = k + skipL (t.data.toList.drop k) := ⟨_, rfl⟩
  rw [← hm] at HP ⊢
  have hmt : m ≤ t.size := by omega
  have HA0 := Lib.hid hA0
  clear hm hB0 hA0 hsk
  go_enter Tryz.func21, Tryz.ntmps21
  go_wp2_with fail
  refine HP.out.mono ?_
  rintro e w1 ⟨rfl, hg1, hR1⟩
  have hne : ¬ B = w.heap.size := by have := hB.lt; omega
  have hz1 : Blk w1 w.heap.size 35 #[.int .i64 0, .int .i64 0, .string ⟨#[]⟩, .int .u64 0, .int .u64 0, .int .u64 0, .int .u64 0, .int .i64 0] :=
    (Blk.new w 35 _).kept hg1 (by simp; exact fun e => hne e.symm)
  have hg : w.grownBy w1 (some B) := (grown_of_below' HA0.out (some B)).andThen hg1 (fun _ e => .inr e)
  have r0 : w1.cell? ⟨B, 0, none⟩ = some (.string t) := hR1.cell 0
  have r1 : w1.cell? ⟨B, 1, none⟩ = some (.int .i64 (m : Int)) := hR1.cell 1
  have hsz1 := hg1.size
  simp only [World.size_alloc] at hsz1
  by_cases hend : m = t.size
  · have n1 : ((m : Int) == (t.size : Int)) = true := by rw [beq_iff_eq]; omega
    have HZ1 := Lib.hid hz1
    have HR1 := Lib.hid hR1
    have Hg := Lib.hid hg
    have z0 := hz1.cell 0
    have z1 := hz1.cell 1
    have z2 := hz1.cell 2
    have z3 := hz1.cell 3
    have z4 := hz1.cell 4
    have z5 := hz1.cell 5
    have z6 := hz1.cell 6
    have z7 := hz1.cell 7
    have y := hz1.frozen
    have zl := hz1.lt
    have He := Lib.hid hend
    clear hz1 hR1 hg hg1 hend
    have e5 : w.heap.size ≤ w.heap.size := Nat.le_refl _
    simp only [List.getElem?_toArray, List.getElem?_cons_zero, List.getElem?_cons_succ] at z0 z1 z2 z3 z4 z5 z6 z7
    have HP0 : Hid (∀ e w', w.grownBy w' (some B) ∧ e = .returned (.tuple #[wordV noWd 0, .bool false]) ∧ Rdr w' B t m → NextP B t m w e w') := Lib.hid (fun e w' h => by unfold NextP; rw [if_pos He.out]; exact h)
    go_wp2
    go_region
    go_wp2
    refine bodyPost_ret (v := .tuple #[wordV noWd 0, .bool false]) (by simp [results, Tryz.results21, go_sem, wordV, wordC, noWd, wz.1, wz.2.1, wz.2.2.1, wz.2.2.2, z0, z1, z2, z3, z4, z5, z6, z7]) rfl ?_
    refine HP0.out _ _ ⟨?_, rfl, ?_⟩
    · repeat (first | with_reducible exact Hg.out | with_reducible refine grown_drew ?_ | with_reducible refine grown_new ?_ (by assumption) _ _)
    · repeat (first | with_reducible exact HR1.out | with_reducible refine Blk.drew ?_ | with_reducible refine Blk.other ?_ (by assumption) _)
  · have hlt : m < t.size := by omega
    have n1 : ((m : Int) == (t.size : Int)) = false := by rw [beq_eq_false_iff_ne]; omega
    have n2 : (m : Int) < (t.size : Int) := by omega
    have hlB := hR1.lt
    have n3 : (0 : Int) ≤ (m : Int) := by omega
    obtain ⟨b, hb⟩ : ∃ b, b = (t[m]'hlt).toNat := ⟨_, rfl⟩
    have hb256 : b < 256 := by rw [hb]; exact (t[m]'hlt).toNat_lt
    have hi : ∀ h, (t[m]'h).toNat = b := fun h => hb.symm
    obtain ⟨wa, hwa⟩ : ∃ wa, wa = (w1.alloc (.cells #[.int .i64 0, .int .i64 (m : Int), .string ⟨#[]⟩, .int .u64 0, .int .u64 0, .int .u64 0, .int .u64 0, .int .i64 0] 35)).drew.drew := ⟨_, rfl⟩
    have hsw : SwW wa w B w.heap.size w1.heap.size t m := by
      have hBa : Below w1.heap.size w1 wa := by rw [hwa]; exact (((Below.refl _ w1).alloc (Nat.le_refl _) _).drew).drew
      refine ⟨Blk.below hR1 hBa hR1.lt, Blk.below hz1 hBa hz1.lt, ?_, hg.andThen (grown_of_below' hBa (some B)) (fun _ e => .inr e), hne, by have := hR1.lt; omega, by omega, Nat.le_refl _, by omega, ?_⟩
      · rw [hwa]; exact Blk.new w1 35 _
      · exact HG.out.grown (hg.andThen (grown_of_below' hBa (some B)) (fun _ e => .inr e)) hB4
    have HW := Lib.hid hsw
    have HWa := Lib.hid hwa
    have hdr := Lib.hid (drop_at t m hlt)
    have HPost : Hid (∀ e w', (w.grownBy w' (some B) ∧ match nextW (t.data.toList.drop m) with
      | some p => e = .returned (.tuple #[wordV p.1 m, .bool true]) ∧ Rdr w' B t (m + p.2)
      | none => e = .panicked gone ∧ Rdr w' B t m) → NextP B t m w e w') := Lib.hid (fun e w' h => by unfold NextP; rw [if_neg hend]; exact h)
    have HD0 := Lib.hid (isDigit_any b)
    have HS0 := Lib.hid (isSgn_any b hb256)
    clear hb hwa hsw hz1 hR1 hg hg1 hend
    have HNW := Lib.hid (nextW_of _ _ _ hdr.out b (hi hlt))
    by_cases cA : 65 ≤ b ∧ b ≤ 90
    · have d1 : (65 : Int) ≤ b := by omega
      have d2 : (b : Int) ≤ 90 := by omega
      have HNx : Hid (nextW (t.data.toList.drop m) = if nameB ((t.data.toList.drop m).take (runL (t.data.toList.drop m))) then some (⟨1, bytesOf ((t.data.toList.drop m).take (runL (t.data.toList.drop m))), 0#256, 0⟩, runL (t.data.toList.drop m)) else none) := Lib.hid (by rw [HNW.out, if_pos (by simp [letB]; omega)])
      cases hnm : nameB ((t.data.toList.drop m).take (runL (t.data.toList.drop m))) with
      | true =>
        have HN := Lib.hid (fun W hW => readName_any B t m ht hmt W hW true hnm)
        have HX := Lib.hid (HNx.out.trans (by rw [if_pos hnm]))
        clear hnm
        go_wp2
        go_region
        go_wp2
        go_region
        rw [← HWa.out]
        go_wp2_with (first | (go_at_call 33; refine (HD0.out _).mono ?_; rintro e w' ⟨rfl, rfl⟩) | (go_at_call 42; refine (HS0.out _).mono ?_; rintro e w' ⟨rfl, rfl⟩))
        refine (HN.out _ HW.out.r).mono ?_
        rintro e w2 ⟨hg2, h2⟩
        simp only [if_true] at h2
        obtain ⟨rfl, hr2⟩ := h2
        rw [cut_list]
        have HPost := Lib.hid (fun e w' h => HPost.out e w' (by rw [HX.out]; exact h))
        obtain ⟨hr3, hz3, hx3, hg3⟩ := HW.out.next hg2 hr2
        have HR3 := Lib.hid hr3
        have HG3 := Lib.hid hg3
        have z0 := hz3.cell 0
        have z1 := hz3.cell 1
        have z2 := hz3.cell 2
        have z3 := hz3.cell 3
        have z4 := hz3.cell 4
        have z5 := hz3.cell 5
        have z6 := hz3.cell 6
        have z7 := hz3.cell 7
        have zf := hz3.frozen
        have zl := hz3.lt
        have x0 := hx3.cell 0
        have x1 := hx3.cell 1
        have x2 := hx3.cell 2
        have x3 := hx3.cell 3
        have x4 := hx3.cell 4
        have x5 := hx3.cell 5
        have x6 := hx3.cell 6
        have x7 := hx3.cell 7
        have xf := hx3.frozen
        have xl := hx3.lt
        simp only [List.getElem?_toArray, List.getElem?_cons_zero, List.getElem?_cons_succ] at z0 z1 z2 z3 z4 z5 z6 z7 x0 x1 x2 x3 x4 x5 x6 x7
        have e1 := HW.out.zx
        have e2 := e1.symm
        have e3 := HW.out.bz
        have e4 := HW.out.bx
        have e5 := HW.out.wz
        have e6 := HW.out.wx
        clear hr3 hz3 hx3 hg3 hg2 hr2
        go_wp2
        refine bodyPost_ret (v := .tuple #[wordV ⟨1, bytesOf ((t.data.toList.drop m).take (runL (t.data.toList.drop m))), 0#256, 0⟩ m, .bool true]) (by simp [results, Tryz.results21, go_sem, wordV, wordC, wz.1, wz.2.1, wz.2.2.1, wz.2.2.2, z0, z1, z2, z3, z4, z5, z6, z7]) rfl ?_
        refine HPost.out _ _ ⟨?_, rfl, ?_⟩
        · repeat (first | with_reducible exact HG3.out | with_reducible refine grown_drew ?_ | with_reducible refine grown_new ?_ (by assumption) _ _)
        · repeat (first | with_reducible exact HR3.out | with_reducible refine Blk.drew ?_ | with_reducible refine Blk.other ?_ (by assumption) _)
      | false =>
        have HN := Lib.hid (fun W hW => readName_any B t m ht hmt W hW false hnm)
        have HX : Hid (nextW (t.data.toList.drop m) = none) := Lib.hid (by rw [HNx.out, if_neg (by simp [hnm])])
        clear hnm
        go_wp2
        go_region
        go_wp2
        go_region
        rw [← HWa.out]
        go_wp2_with (first | (go_at_call 33; refine (HD0.out _).mono ?_; rintro e w' ⟨rfl, rfl⟩) | (go_at_call 42; refine (HS0.out _).mono ?_; rintro e w' ⟨rfl, rfl⟩))
        refine (HN.out _ HW.out.r).mono ?_
        rintro e w2 ⟨hg2, h2⟩
        simp only [Bool.false_eq_true, if_false] at h2
        obtain ⟨rfl, hr2⟩ := h2
        obtain ⟨hr3, _, _, hg3⟩ := HW.out.next hg2 hr2
        have HR3 := Lib.hid hr3
        have HG3 := Lib.hid hg3
        clear hr3 hg3 hg2 hr2
        go_wp2
        refine ⟨rfl, HPost.out _ _ ⟨HG3.out, ?_⟩⟩
        rw [HX.out]
        exact ⟨rfl, HR3.out⟩
    · by_cases cB : 97 ≤ b ∧ b ≤ 122
      · have d1 : (65 : Int) ≤ b := by omega
        have d2 : ¬ (b : Int) ≤ 90 := by omega
        have d3 : (97 : Int) ≤ b := by omega
        have d4 : (b : Int) ≤ 122 := by omega
        have HNx : Hid (nextW (t.data.toList.drop m) = if nameB ((t.data.toList.drop m).take (runL (t.data.toList.drop m))) then some (⟨1, bytesOf ((t.data.toList.drop m).take (runL (t.data.toList.drop m))), 0#256, 0⟩, runL (t.data.toList.drop m)) else none) := Lib.hid (by rw [HNW.out, if_pos (by simp [letB]; omega)])
        cases hnm : nameB ((t.data.toList.drop m).take (runL (t.data.toList.drop m))) with
        | true =>
          have HN := Lib.hid (fun W hW => readName_any B t m ht hmt W hW true hnm)
          have HX := Lib.hid (HNx.out.trans (by rw [if_pos hnm]))
          clear hnm
          go_wp2
          go_region
          go_wp2
          go_region
          rw [← HWa.out]
          go_wp2_with (first | (go_at_call 33; refine (HD0.out _).mono ?_; rintro e w' ⟨rfl, rfl⟩) | (go_at_call 42; refine (HS0.out _).mono ?_; rintro e w' ⟨rfl, rfl⟩))
          refine (HN.out _ HW.out.r).mono ?_
          rintro e w2 ⟨hg2, h2⟩
          simp only [if_true] at h2
          obtain ⟨rfl, hr2⟩ := h2
          rw [cut_list]
          have HPost := Lib.hid (fun e w' h => HPost.out e w' (by rw [HX.out]; exact h))
          obtain ⟨hr3, hz3, hx3, hg3⟩ := HW.out.next hg2 hr2
          have HR3 := Lib.hid hr3
          have HG3 := Lib.hid hg3
          have z0 := hz3.cell 0
          have z1 := hz3.cell 1
          have z2 := hz3.cell 2
          have z3 := hz3.cell 3
          have z4 := hz3.cell 4
          have z5 := hz3.cell 5
          have z6 := hz3.cell 6
          have z7 := hz3.cell 7
          have zf := hz3.frozen
          have zl := hz3.lt
          have x0 := hx3.cell 0
          have x1 := hx3.cell 1
          have x2 := hx3.cell 2
          have x3 := hx3.cell 3
          have x4 := hx3.cell 4
          have x5 := hx3.cell 5
          have x6 := hx3.cell 6
          have x7 := hx3.cell 7
          have xf := hx3.frozen
          have xl := hx3.lt
          simp only [List.getElem?_toArray, List.getElem?_cons_zero, List.getElem?_cons_succ] at z0 z1 z2 z3 z4 z5 z6 z7 x0 x1 x2 x3 x4 x5 x6 x7
          have e1 := HW.out.zx
          have e2 := e1.symm
          have e3 := HW.out.bz
          have e4 := HW.out.bx
          have e5 := HW.out.wz
          have e6 := HW.out.wx
          clear hr3 hz3 hx3 hg3 hg2 hr2
          go_wp2
          refine bodyPost_ret (v := .tuple #[wordV ⟨1, bytesOf ((t.data.toList.drop m).take (runL (t.data.toList.drop m))), 0#256, 0⟩ m, .bool true]) (by simp [results, Tryz.results21, go_sem, wordV, wordC, wz.1, wz.2.1, wz.2.2.1, wz.2.2.2, z0, z1, z2, z3, z4, z5, z6, z7]) rfl ?_
          refine HPost.out _ _ ⟨?_, rfl, ?_⟩
          · repeat (first | with_reducible exact HG3.out | with_reducible refine grown_drew ?_ | with_reducible refine grown_new ?_ (by assumption) _ _)
          · repeat (first | with_reducible exact HR3.out | with_reducible refine Blk.drew ?_ | with_reducible refine Blk.other ?_ (by assumption) _)
        | false =>
          have HN := Lib.hid (fun W hW => readName_any B t m ht hmt W hW false hnm)
          have HX : Hid (nextW (t.data.toList.drop m) = none) := Lib.hid (by rw [HNx.out, if_neg (by simp [hnm])])
          clear hnm
          go_wp2
          go_region
          go_wp2
          go_region
          rw [← HWa.out]
          go_wp2_with (first | (go_at_call 33; refine (HD0.out _).mono ?_; rintro e w' ⟨rfl, rfl⟩) | (go_at_call 42; refine (HS0.out _).mono ?_; rintro e w' ⟨rfl, rfl⟩))
          refine (HN.out _ HW.out.r).mono ?_
          rintro e w2 ⟨hg2, h2⟩
          simp only [Bool.false_eq_true, if_false] at h2
          obtain ⟨rfl, hr2⟩ := h2
          obtain ⟨hr3, _, _, hg3⟩ := HW.out.next hg2 hr2
          have HR3 := Lib.hid hr3
          have HG3 := Lib.hid hg3
          clear hr3 hg3 hg2 hr2
          go_wp2
          refine ⟨rfl, HPost.out _ _ ⟨HG3.out, ?_⟩⟩
          rw [HX.out]
          exact ⟨rfl, HR3.out⟩
      · have hlet : letB b = false := by simp [letB]; omega
        by_cases cC : b = 95
        · have HNx : Hid (nextW (t.data.toList.drop m) = if nameB ((t.data.toList.drop m).take (runL (t.data.toList.drop m))) then some (⟨1, bytesOf ((t.data.toList.drop m).take (runL (t.data.toList.drop m))), 0#256, 0⟩, runL (t.data.toList.drop m)) else none) := Lib.hid (by rw [HNW.out, if_pos (by simp [cC])])
          clear HNW hlet cA cB
          subst cC
          cases hnm : nameB ((t.data.toList.drop m).take (runL (t.data.toList.drop m))) with
          | true =>
            have HN := Lib.hid (fun W hW => readName_any B t m ht hmt W hW true hnm)
            have HX := Lib.hid (HNx.out.trans (by rw [if_pos hnm]))
            clear hnm
            go_wp2
            go_region
            go_wp2
            go_region
            rw [← HWa.out]
            go_wp2_with (first | (go_at_call 33; refine (HD0.out _).mono ?_; rintro e w' ⟨rfl, rfl⟩) | (go_at_call 42; refine (HS0.out _).mono ?_; rintro e w' ⟨rfl, rfl⟩))
            refine (HN.out _ HW.out.r).mono ?_
            rintro e w2 ⟨hg2, h2⟩
            simp only [if_true] at h2
            obtain ⟨rfl, hr2⟩ := h2
            rw [cut_list]
            have HPost := Lib.hid (fun e w' h => HPost.out e w' (by rw [HX.out]; exact h))
            obtain ⟨hr3, hz3, hx3, hg3⟩ := HW.out.next hg2 hr2
            have HR3 := Lib.hid hr3
            have HG3 := Lib.hid hg3
            have z0 := hz3.cell 0
            have z1 := hz3.cell 1
            have z2 := hz3.cell 2
            have z3 := hz3.cell 3
            have z4 := hz3.cell 4
            have z5 := hz3.cell 5
            have z6 := hz3.cell 6
            have z7 := hz3.cell 7
            have zf := hz3.frozen
            have zl := hz3.lt
            have x0 := hx3.cell 0
            have x1 := hx3.cell 1
            have x2 := hx3.cell 2
            have x3 := hx3.cell 3
            have x4 := hx3.cell 4
            have x5 := hx3.cell 5
            have x6 := hx3.cell 6
            have x7 := hx3.cell 7
            have xf := hx3.frozen
            have xl := hx3.lt
            simp only [List.getElem?_toArray, List.getElem?_cons_zero, List.getElem?_cons_succ] at z0 z1 z2 z3 z4 z5 z6 z7 x0 x1 x2 x3 x4 x5 x6 x7
            have e1 := HW.out.zx
            have e2 := e1.symm
            have e3 := HW.out.bz
            have e4 := HW.out.bx
            have e5 := HW.out.wz
            have e6 := HW.out.wx
            clear hr3 hz3 hx3 hg3 hg2 hr2
            go_wp2
            refine bodyPost_ret (v := .tuple #[wordV ⟨1, bytesOf ((t.data.toList.drop m).take (runL (t.data.toList.drop m))), 0#256, 0⟩ m, .bool true]) (by simp [results, Tryz.results21, go_sem, wordV, wordC, wz.1, wz.2.1, wz.2.2.1, wz.2.2.2, z0, z1, z2, z3, z4, z5, z6, z7]) rfl ?_
            refine HPost.out _ _ ⟨?_, rfl, ?_⟩
            · repeat (first | with_reducible exact HG3.out | with_reducible refine grown_drew ?_ | with_reducible refine grown_new ?_ (by assumption) _ _)
            · repeat (first | with_reducible exact HR3.out | with_reducible refine Blk.drew ?_ | with_reducible refine Blk.other ?_ (by assumption) _)
          | false =>
            have HN := Lib.hid (fun W hW => readName_any B t m ht hmt W hW false hnm)
            have HX : Hid (nextW (t.data.toList.drop m) = none) := Lib.hid (by rw [HNx.out, if_neg (by simp [hnm])])
            clear hnm
            go_wp2
            go_region
            go_wp2
            go_region
            rw [← HWa.out]
            go_wp2_with (first | (go_at_call 33; refine (HD0.out _).mono ?_; rintro e w' ⟨rfl, rfl⟩) | (go_at_call 42; refine (HS0.out _).mono ?_; rintro e w' ⟨rfl, rfl⟩))
            refine (HN.out _ HW.out.r).mono ?_
            rintro e w2 ⟨hg2, h2⟩
            simp only [Bool.false_eq_true, if_false] at h2
            obtain ⟨rfl, hr2⟩ := h2
            obtain ⟨hr3, _, _, hg3⟩ := HW.out.next hg2 hr2
            have HR3 := Lib.hid hr3
            have HG3 := Lib.hid hg3
            clear hr3 hg3 hg2 hr2
            go_wp2
            refine ⟨rfl, HPost.out _ _ ⟨HG3.out, ?_⟩⟩
            rw [HX.out]
            exact ⟨rfl, HR3.out⟩
        · have d5 : ((b : Int) == 95) = false := by rw [beq_eq_false_iff_ne]; omega
          cases hdg : digB b with
          | true =>
            rw [hdg] at HD0
            have hdg2 := of_decide_eq_true (show decide (48 ≤ b ∧ b ≤ 57) = true from hdg)
            have HNx : Hid (nextW (t.data.toList.drop m) = (numO (t.data.toList.drop m)).map fun v => (⟨4, ⟨#[]⟩, 0#256, v⟩, runL (t.data.toList.drop m))) := Lib.hid (by rw [HNW.out, if_neg (by simp [hlet, cC]), if_pos hdg])
            have d1 : ¬ (65 : Int) ≤ b := by omega
            have d3 : ¬ (97 : Int) ≤ b := by omega
            clear HNW hlet cA cB cC hdg
            have HC := Lib.hid (fun W (hW : Rdr W B t m) (hGW : GlobD W) => readNumber_any B t m ht hmt W hGW hW)
            obtain ⟨o, ho⟩ : ∃ o, o = numO (t.data.toList.drop m) := ⟨_, rfl⟩
            rw [← ho] at HC HNx
            clear ho
            cases o with
            | some v =>
              have HX : Hid (nextW (t.data.toList.drop m) = some (⟨4, ⟨#[]⟩, 0#256, v⟩, runL (t.data.toList.drop m))) := Lib.hid (HNx.out.trans rfl)
              clear HNx
              go_wp2
              go_region
              go_wp2
              go_region
              rw [← HWa.out]
              go_wp2_with (first | (go_at_call 33; refine (HD0.out _).mono ?_; rintro e w' ⟨rfl, rfl⟩) | (go_at_call 42; refine (HS0.out _).mono ?_; rintro e w' ⟨rfl, rfl⟩))
              refine (HC.out _ HW.out.r HW.out.gl).mono ?_
              rintro e w2 ⟨hg2, rfl, hr2⟩
              have HPost := Lib.hid (fun e w' h => HPost.out e w' (by rw [HX.out]; exact h))
              obtain ⟨hr3, hz3, hx3, hg3⟩ := HW.out.next hg2 hr2
              have HR3 := Lib.hid hr3
              have HG3 := Lib.hid hg3
              have z0 := hz3.cell 0
              have z1 := hz3.cell 1
              have z2 := hz3.cell 2
              have z3 := hz3.cell 3
              have z4 := hz3.cell 4
              have z5 := hz3.cell 5
              have z6 := hz3.cell 6
              have z7 := hz3.cell 7
              have zf := hz3.frozen
              have zl := hz3.lt
              have x0 := hx3.cell 0
              have x1 := hx3.cell 1
              have x2 := hx3.cell 2
              have x3 := hx3.cell 3
              have x4 := hx3.cell 4
              have x5 := hx3.cell 5
              have x6 := hx3.cell 6
              have x7 := hx3.cell 7
              have xf := hx3.frozen
              have xl := hx3.lt
              simp only [List.getElem?_toArray, List.getElem?_cons_zero, List.getElem?_cons_succ] at z0 z1 z2 z3 z4 z5 z6 z7 x0 x1 x2 x3 x4 x5 x6 x7
              have e1 := HW.out.zx
              have e2 := e1.symm
              have e3 := HW.out.bz
              have e4 := HW.out.bx
              have e5 := HW.out.wz
              have e6 := HW.out.wx
              clear hr3 hz3 hx3 hg3 hg2 hr2
              go_wp2
              refine bodyPost_ret (v := .tuple #[wordV (⟨4, ⟨#[]⟩, 0#256, v⟩) m, .bool true]) (by simp [results, Tryz.results21, go_sem, wordV, wordC, wz.1, wz.2.1, wz.2.2.1, wz.2.2.2, z0, z1, z2, z3, z4, z5, z6, z7]) rfl ?_
              refine HPost.out _ _ ⟨?_, rfl, ?_⟩
              · repeat (first | with_reducible exact HG3.out | with_reducible refine grown_drew ?_ | with_reducible refine grown_new ?_ (by assumption) _ _)
              · repeat (first | with_reducible exact HR3.out | with_reducible refine Blk.drew ?_ | with_reducible refine Blk.other ?_ (by assumption) _)
            | none =>
              have HX : Hid (nextW (t.data.toList.drop m) = none) := Lib.hid (HNx.out.trans rfl)
              clear HNx
              go_wp2
              go_region
              go_wp2
              go_region
              rw [← HWa.out]
              go_wp2_with (first | (go_at_call 33; refine (HD0.out _).mono ?_; rintro e w' ⟨rfl, rfl⟩) | (go_at_call 42; refine (HS0.out _).mono ?_; rintro e w' ⟨rfl, rfl⟩))
              refine (HC.out _ HW.out.r HW.out.gl).mono ?_
              rintro e w2 ⟨hg2, rfl, hr2⟩
              obtain ⟨hr3, _, _, hg3⟩ := HW.out.next hg2 hr2
              have HR3 := Lib.hid hr3
              have HG3 := Lib.hid hg3
              clear hr3 hg3 hg2 hr2
              go_wp2
              refine ⟨rfl, HPost.out _ _ ⟨HG3.out, ?_⟩⟩
              rw [HX.out]
              exact ⟨rfl, HR3.out⟩
          | false =>
            rw [hdg] at HD0
            by_cases cE : b = 34
            · have HNx : Hid (nextW (t.data.toList.drop m) = (textO (t.data.toList.drop (m + 1))).map fun p => (⟨2, bytesStr p.1, 0#256, 0⟩, 1 + p.2)) := Lib.hid (by rw [HNW.out, if_neg (by simp [hlet, cC]), hdg, if_neg (by simp), if_pos cE])
              clear HNW hlet cA cB cC hdg d5
              subst cE
              have HC := Lib.hid (fun W (hW : Rdr W B t m) (hGW : GlobD W) => readText_any B t m ht hlt W hGW hW)
              obtain ⟨o, ho⟩ : ∃ o, o = textO (t.data.toList.drop (m + 1)) := ⟨_, rfl⟩
              rw [← ho] at HC HNx
              clear ho
              cases o with
              | some v =>
                have HX : Hid (nextW (t.data.toList.drop m) = some (⟨2, bytesStr v.1, 0#256, 0⟩, 1 + v.2)) := Lib.hid (HNx.out.trans rfl)
                clear HNx
                go_wp2
                go_region
                go_wp2
                go_region
                rw [← HWa.out]
                go_wp2_with (first | (go_at_call 33; refine (HD0.out _).mono ?_; rintro e w' ⟨rfl, rfl⟩) | (go_at_call 42; refine (HS0.out _).mono ?_; rintro e w' ⟨rfl, rfl⟩))
                refine (HC.out _ HW.out.r HW.out.gl).mono ?_
                rintro e w2 ⟨hg2, rfl, hr2⟩
                have hr2 : Rdr w2 B t (m + (1 + v.2)) := by rw [← Nat.add_assoc]; exact hr2
                have HPost := Lib.hid (fun e w' h => HPost.out e w' (by rw [HX.out]; exact h))
                obtain ⟨hr3, hz3, hx3, hg3⟩ := HW.out.next hg2 hr2
                have HR3 := Lib.hid hr3
                have HG3 := Lib.hid hg3
                have z0 := hz3.cell 0
                have z1 := hz3.cell 1
                have z2 := hz3.cell 2
                have z3 := hz3.cell 3
                have z4 := hz3.cell 4
                have z5 := hz3.cell 5
                have z6 := hz3.cell 6
                have z7 := hz3.cell 7
                have zf := hz3.frozen
                have zl := hz3.lt
                have x0 := hx3.cell 0
                have x1 := hx3.cell 1
                have x2 := hx3.cell 2
                have x3 := hx3.cell 3
                have x4 := hx3.cell 4
                have x5 := hx3.cell 5
                have x6 := hx3.cell 6
                have x7 := hx3.cell 7
                have xf := hx3.frozen
                have xl := hx3.lt
                simp only [List.getElem?_toArray, List.getElem?_cons_zero, List.getElem?_cons_succ] at z0 z1 z2 z3 z4 z5 z6 z7 x0 x1 x2 x3 x4 x5 x6 x7
                have e1 := HW.out.zx
                have e2 := e1.symm
                have e3 := HW.out.bz
                have e4 := HW.out.bx
                have e5 := HW.out.wz
                have e6 := HW.out.wx
                clear hr3 hz3 hx3 hg3 hg2 hr2
                go_wp2
                refine bodyPost_ret (v := .tuple #[wordV (⟨2, bytesStr v.1, 0#256, 0⟩) m, .bool true]) (by simp [results, Tryz.results21, go_sem, wordV, wordC, wz.1, wz.2.1, wz.2.2.1, wz.2.2.2, z0, z1, z2, z3, z4, z5, z6, z7]) rfl ?_
                refine HPost.out _ _ ⟨?_, rfl, ?_⟩
                · repeat (first | with_reducible exact HG3.out | with_reducible refine grown_drew ?_ | with_reducible refine grown_new ?_ (by assumption) _ _)
                · repeat (first | with_reducible exact HR3.out | with_reducible refine Blk.drew ?_ | with_reducible refine Blk.other ?_ (by assumption) _)
              | none =>
                have HX : Hid (nextW (t.data.toList.drop m) = none) := Lib.hid (HNx.out.trans rfl)
                clear HNx
                go_wp2
                go_region
                go_wp2
                go_region
                rw [← HWa.out]
                go_wp2_with (first | (go_at_call 33; refine (HD0.out _).mono ?_; rintro e w' ⟨rfl, rfl⟩) | (go_at_call 42; refine (HS0.out _).mono ?_; rintro e w' ⟨rfl, rfl⟩))
                refine (HC.out _ HW.out.r HW.out.gl).mono ?_
                rintro e w2 ⟨hg2, rfl, hr2⟩
                obtain ⟨hr3, _, _, hg3⟩ := HW.out.next hg2 hr2
                have HR3 := Lib.hid hr3
                have HG3 := Lib.hid hg3
                clear hr3 hg3 hg2 hr2
                go_wp2
                refine ⟨rfl, HPost.out _ _ ⟨HG3.out, ?_⟩⟩
                rw [HX.out]
                exact ⟨rfl, HR3.out⟩
            · by_cases cF : b = 91
              · have HNx : Hid (nextW (t.data.toList.drop m) = (setO (t.data.toList.drop m)).map fun s => (⟨3, ⟨#[]⟩, s, 0⟩, setL (t.data.toList.drop m))) := Lib.hid (by rw [HNW.out, if_neg (by simp [hlet, cC]), hdg, if_neg (by simp), if_neg cE, if_pos cF])
                clear HNW hlet cA cB cC hdg d5 cE
                subst cF
                have HC := Lib.hid (fun W (hW : Rdr W B t m) (hGW : GlobD W) => readSet_any B t m ht hmt W hGW hW)
                obtain ⟨o, ho⟩ : ∃ o, o = setO (t.data.toList.drop m) := ⟨_, rfl⟩
                rw [← ho] at HC HNx
                clear ho
                cases o with
                | some v =>
                  have HX : Hid (nextW (t.data.toList.drop m) = some (⟨3, ⟨#[]⟩, v, 0⟩, setL (t.data.toList.drop m))) := Lib.hid (HNx.out.trans rfl)
                  clear HNx
                  go_wp2
                  go_region
                  go_wp2
                  go_region
                  rw [← HWa.out]
                  go_wp2_with (first | (go_at_call 33; refine (HD0.out _).mono ?_; rintro e w' ⟨rfl, rfl⟩) | (go_at_call 42; refine (HS0.out _).mono ?_; rintro e w' ⟨rfl, rfl⟩))
                  refine (HC.out _ HW.out.r HW.out.gl).mono ?_
                  rintro e w2 ⟨hg2, rfl, hr2⟩
                  have HPost := Lib.hid (fun e w' h => HPost.out e w' (by rw [HX.out]; exact h))
                  obtain ⟨hr3, hz3, hx3, hg3⟩ := HW.out.next hg2 hr2
                  have HR3 := Lib.hid hr3
                  have HG3 := Lib.hid hg3
                  have z0 := hz3.cell 0
                  have z1 := hz3.cell 1
                  have z2 := hz3.cell 2
                  have z3 := hz3.cell 3
                  have z4 := hz3.cell 4
                  have z5 := hz3.cell 5
                  have z6 := hz3.cell 6
                  have z7 := hz3.cell 7
                  have zf := hz3.frozen
                  have zl := hz3.lt
                  have x0 := hx3.cell 0
                  have x1 := hx3.cell 1
                  have x2 := hx3.cell 2
                  have x3 := hx3.cell 3
                  have x4 := hx3.cell 4
                  have x5 := hx3.cell 5
                  have x6 := hx3.cell 6
                  have x7 := hx3.cell 7
                  have xf := hx3.frozen
                  have xl := hx3.lt
                  simp only [List.getElem?_toArray, List.getElem?_cons_zero, List.getElem?_cons_succ] at z0 z1 z2 z3 z4 z5 z6 z7 x0 x1 x2 x3 x4 x5 x6 x7
                  have e1 := HW.out.zx
                  have e2 := e1.symm
                  have e3 := HW.out.bz
                  have e4 := HW.out.bx
                  have e5 := HW.out.wz
                  have e6 := HW.out.wx
                  clear hr3 hz3 hx3 hg3 hg2 hr2
                  unfold vset
                  go_wp2
                  refine bodyPost_ret (v := .tuple #[wordV (⟨3, ⟨#[]⟩, v, 0⟩) m, .bool true]) (by simp [results, Tryz.results21, go_sem, wordV, wordC, z0, z1, z2, z3, z4, z5, z6, z7]) rfl ?_
                  refine HPost.out _ _ ⟨?_, rfl, ?_⟩
                  · repeat (first | with_reducible exact HG3.out | with_reducible refine grown_drew ?_ | with_reducible refine grown_new ?_ (by assumption) _ _)
                  · repeat (first | with_reducible exact HR3.out | with_reducible refine Blk.drew ?_ | with_reducible refine Blk.other ?_ (by assumption) _)
                | none =>
                  have HX : Hid (nextW (t.data.toList.drop m) = none) := Lib.hid (HNx.out.trans rfl)
                  clear HNx
                  go_wp2
                  go_region
                  go_wp2
                  go_region
                  rw [← HWa.out]
                  go_wp2_with (first | (go_at_call 33; refine (HD0.out _).mono ?_; rintro e w' ⟨rfl, rfl⟩) | (go_at_call 42; refine (HS0.out _).mono ?_; rintro e w' ⟨rfl, rfl⟩))
                  refine (HC.out _ HW.out.r HW.out.gl).mono ?_
                  rintro e w2 ⟨hg2, rfl, hr2⟩
                  obtain ⟨hr3, _, _, hg3⟩ := HW.out.next hg2 hr2
                  have HR3 := Lib.hid hr3
                  have HG3 := Lib.hid hg3
                  clear hr3 hg3 hg2 hr2
                  go_wp2
                  refine ⟨rfl, HPost.out _ _ ⟨HG3.out, ?_⟩⟩
                  rw [HX.out]
                  exact ⟨rfl, HR3.out⟩
              · have d6 : ((b : Int) == 34) = false := by rw [beq_eq_false_iff_ne]; omega
                have d7 : ((b : Int) == 91) = false := by rw [beq_eq_false_iff_ne]; omega
                cases hsg : sgnB b with
                | true =>
                  rw [hsg] at HS0
                  have HX : Hid (nextW (t.data.toList.drop m) = some (⟨5, bytesOf ((t.data.toList.drop m).take 1), 0#256, 0⟩, 1)) := Lib.hid (by rw [HNW.out, if_neg (by simp [hlet, cC]), hdg, if_neg (by simp), if_neg cE, if_neg cF, if_pos hsg])
                  have HTk := Lib.hid (fun W hW => take_any B t m 1 ht (by omega) W hW)
                  clear HNW hlet hdg hsg
                  by_cases c1 : b < 65
                  · have d1 : ¬ (65 : Int) ≤ b := by omega
                    have d3 : ¬ (97 : Int) ≤ b := by omega
                    go_wp2
                    go_region
                    go_wp2
                    go_region
                    rw [← HWa.out]
                    go_wp2_with (first | (go_at_call 33; refine (HD0.out _).mono ?_; rintro e w' ⟨rfl, rfl⟩) | (go_at_call 42; refine (HS0.out _).mono ?_; rintro e w' ⟨rfl, rfl⟩))
                    refine (HTk.out _ HW.out.r).mono ?_
                    rintro e w2 ⟨rfl, hg2, hr2⟩
                    rw [cut_list]
                    have HPost := Lib.hid (fun e w' h => HPost.out e w' (by rw [HX.out]; exact h))
                    obtain ⟨hr3, hz3, hx3, hg3⟩ := HW.out.next hg2 hr2
                    have HR3 := Lib.hid hr3
                    have HG3 := Lib.hid hg3
                    have z0 := hz3.cell 0
                    have z1 := hz3.cell 1
                    have z2 := hz3.cell 2
                    have z3 := hz3.cell 3
                    have z4 := hz3.cell 4
                    have z5 := hz3.cell 5
                    have z6 := hz3.cell 6
                    have z7 := hz3.cell 7
                    have zf := hz3.frozen
                    have zl := hz3.lt
                    have x0 := hx3.cell 0
                    have x1 := hx3.cell 1
                    have x2 := hx3.cell 2
                    have x3 := hx3.cell 3
                    have x4 := hx3.cell 4
                    have x5 := hx3.cell 5
                    have x6 := hx3.cell 6
                    have x7 := hx3.cell 7
                    have xf := hx3.frozen
                    have xl := hx3.lt
                    simp only [List.getElem?_toArray, List.getElem?_cons_zero, List.getElem?_cons_succ] at z0 z1 z2 z3 z4 z5 z6 z7 x0 x1 x2 x3 x4 x5 x6 x7
                    have e1 := HW.out.zx
                    have e2 := e1.symm
                    have e3 := HW.out.bz
                    have e4 := HW.out.bx
                    have e5 := HW.out.wz
                    have e6 := HW.out.wx
                    clear hr3 hz3 hx3 hg3 hg2 hr2
                    go_wp2
                    refine bodyPost_ret (v := .tuple #[wordV ⟨5, bytesOf ((t.data.toList.drop m).take 1), 0#256, 0⟩ m, .bool true]) (by simp [results, Tryz.results21, go_sem, wordV, wordC, wz.1, wz.2.1, wz.2.2.1, wz.2.2.2, z0, z1, z2, z3, z4, z5, z6, z7]) rfl ?_
                    refine HPost.out _ _ ⟨?_, rfl, ?_⟩
                    · repeat (first | with_reducible exact HG3.out | with_reducible refine grown_drew ?_ | with_reducible refine grown_new ?_ (by assumption) _ _)
                    · repeat (first | with_reducible exact HR3.out | with_reducible refine Blk.drew ?_ | with_reducible refine Blk.other ?_ (by assumption) _)
                  · have d1 : (65 : Int) ≤ b := by omega
                    have d2 : ¬ (b : Int) ≤ 90 := by omega
                    by_cases c2 : b < 97
                    · have d3 : ¬ (97 : Int) ≤ b := by omega
                      go_wp2
                      go_region
                      go_wp2
                      go_region
                      rw [← HWa.out]
                      go_wp2_with (first | (go_at_call 33; refine (HD0.out _).mono ?_; rintro e w' ⟨rfl, rfl⟩) | (go_at_call 42; refine (HS0.out _).mono ?_; rintro e w' ⟨rfl, rfl⟩))
                      refine (HTk.out _ HW.out.r).mono ?_
                      rintro e w2 ⟨rfl, hg2, hr2⟩
                      rw [cut_list]
                      have HPost := Lib.hid (fun e w' h => HPost.out e w' (by rw [HX.out]; exact h))
                      obtain ⟨hr3, hz3, hx3, hg3⟩ := HW.out.next hg2 hr2
                      have HR3 := Lib.hid hr3
                      have HG3 := Lib.hid hg3
                      have z0 := hz3.cell 0
                      have z1 := hz3.cell 1
                      have z2 := hz3.cell 2
                      have z3 := hz3.cell 3
                      have z4 := hz3.cell 4
                      have z5 := hz3.cell 5
                      have z6 := hz3.cell 6
                      have z7 := hz3.cell 7
                      have zf := hz3.frozen
                      have zl := hz3.lt
                      have x0 := hx3.cell 0
                      have x1 := hx3.cell 1
                      have x2 := hx3.cell 2
                      have x3 := hx3.cell 3
                      have x4 := hx3.cell 4
                      have x5 := hx3.cell 5
                      have x6 := hx3.cell 6
                      have x7 := hx3.cell 7
                      have xf := hx3.frozen
                      have xl := hx3.lt
                      simp only [List.getElem?_toArray, List.getElem?_cons_zero, List.getElem?_cons_succ] at z0 z1 z2 z3 z4 z5 z6 z7 x0 x1 x2 x3 x4 x5 x6 x7
                      have e1 := HW.out.zx
                      have e2 := e1.symm
                      have e3 := HW.out.bz
                      have e4 := HW.out.bx
                      have e5 := HW.out.wz
                      have e6 := HW.out.wx
                      clear hr3 hz3 hx3 hg3 hg2 hr2
                      go_wp2
                      refine bodyPost_ret (v := .tuple #[wordV ⟨5, bytesOf ((t.data.toList.drop m).take 1), 0#256, 0⟩ m, .bool true]) (by simp [results, Tryz.results21, go_sem, wordV, wordC, wz.1, wz.2.1, wz.2.2.1, wz.2.2.2, z0, z1, z2, z3, z4, z5, z6, z7]) rfl ?_
                      refine HPost.out _ _ ⟨?_, rfl, ?_⟩
                      · repeat (first | with_reducible exact HG3.out | with_reducible refine grown_drew ?_ | with_reducible refine grown_new ?_ (by assumption) _ _)
                      · repeat (first | with_reducible exact HR3.out | with_reducible refine Blk.drew ?_ | with_reducible refine Blk.other ?_ (by assumption) _)
                    · have d3 : (97 : Int) ≤ b := by omega
                      have d4 : ¬ (b : Int) ≤ 122 := by omega
                      go_wp2
                      go_region
                      go_wp2
                      go_region
                      rw [← HWa.out]
                      go_wp2_with (first | (go_at_call 33; refine (HD0.out _).mono ?_; rintro e w' ⟨rfl, rfl⟩) | (go_at_call 42; refine (HS0.out _).mono ?_; rintro e w' ⟨rfl, rfl⟩))
                      refine (HTk.out _ HW.out.r).mono ?_
                      rintro e w2 ⟨rfl, hg2, hr2⟩
                      rw [cut_list]
                      have HPost := Lib.hid (fun e w' h => HPost.out e w' (by rw [HX.out]; exact h))
                      obtain ⟨hr3, hz3, hx3, hg3⟩ := HW.out.next hg2 hr2
                      have HR3 := Lib.hid hr3
                      have HG3 := Lib.hid hg3
                      have z0 := hz3.cell 0
                      have z1 := hz3.cell 1
                      have z2 := hz3.cell 2
                      have z3 := hz3.cell 3
                      have z4 := hz3.cell 4
                      have z5 := hz3.cell 5
                      have z6 := hz3.cell 6
                      have z7 := hz3.cell 7
                      have zf := hz3.frozen
                      have zl := hz3.lt
                      have x0 := hx3.cell 0
                      have x1 := hx3.cell 1
                      have x2 := hx3.cell 2
                      have x3 := hx3.cell 3
                      have x4 := hx3.cell 4
                      have x5 := hx3.cell 5
                      have x6 := hx3.cell 6
                      have x7 := hx3.cell 7
                      have xf := hx3.frozen
                      have xl := hx3.lt
                      simp only [List.getElem?_toArray, List.getElem?_cons_zero, List.getElem?_cons_succ] at z0 z1 z2 z3 z4 z5 z6 z7 x0 x1 x2 x3 x4 x5 x6 x7
                      have e1 := HW.out.zx
                      have e2 := e1.symm
                      have e3 := HW.out.bz
                      have e4 := HW.out.bx
                      have e5 := HW.out.wz
                      have e6 := HW.out.wx
                      clear hr3 hz3 hx3 hg3 hg2 hr2
                      go_wp2
                      refine bodyPost_ret (v := .tuple #[wordV ⟨5, bytesOf ((t.data.toList.drop m).take 1), 0#256, 0⟩ m, .bool true]) (by simp [results, Tryz.results21, go_sem, wordV, wordC, wz.1, wz.2.1, wz.2.2.1, wz.2.2.2, z0, z1, z2, z3, z4, z5, z6, z7]) rfl ?_
                      refine HPost.out _ _ ⟨?_, rfl, ?_⟩
                      · repeat (first | with_reducible exact HG3.out | with_reducible refine grown_drew ?_ | with_reducible refine grown_new ?_ (by assumption) _ _)
                      · repeat (first | with_reducible exact HR3.out | with_reducible refine Blk.drew ?_ | with_reducible refine Blk.other ?_ (by assumption) _)
                | false =>
                  rw [hsg] at HS0
                  have HX : Hid (nextW (t.data.toList.drop m) = none) := Lib.hid (by rw [HNW.out, if_neg (by simp [hlet, cC]), hdg, if_neg (by simp), if_neg cE, if_neg cF, hsg, if_neg (by simp)])
                  clear HNW hlet hdg hsg
                  by_cases c1 : b < 65
                  · have d1 : ¬ (65 : Int) ≤ b := by omega
                    have d3 : ¬ (97 : Int) ≤ b := by omega
                    go_wp2
                    go_region
                    go_wp2
                    go_region
                    rw [← HWa.out]
                    go_wp2_with (first | (go_at_call 33; refine (HD0.out _).mono ?_; rintro e w' ⟨rfl, rfl⟩) | (go_at_call 42; refine (HS0.out _).mono ?_; rintro e w' ⟨rfl, rfl⟩) | (go_at_call 44; refine (giveUp_any _ _).mono ?_; rintro e w' ⟨rfl, rfl⟩))
                    refine ⟨rfl, HPost.out _ _ ⟨HW.out.g, ?_⟩⟩
                    rw [HX.out]
                    exact ⟨rfl, HW.out.r⟩
                  · have d1 : (65 : Int) ≤ b := by omega
                    have d2 : ¬ (b : Int) ≤ 90 := by omega
                    by_cases c2 : b < 97
                    · have d3 : ¬ (97 : Int) ≤ b := by omega
                      go_wp2
                      go_region
                      go_wp2
                      go_region
                      rw [← HWa.out]
                      go_wp2_with (first | (go_at_call 33; refine (HD0.out _).mono ?_; rintro e w' ⟨rfl, rfl⟩) | (go_at_call 42; refine (HS0.out _).mono ?_; rintro e w' ⟨rfl, rfl⟩) | (go_at_call 44; refine (giveUp_any _ _).mono ?_; rintro e w' ⟨rfl, rfl⟩))
                      refine ⟨rfl, HPost.out _ _ ⟨HW.out.g, ?_⟩⟩
                      rw [HX.out]
                      exact ⟨rfl, HW.out.r⟩
                    · have d3 : (97 : Int) ≤ b := by omega
                      have d4 : ¬ (b : Int) ≤ 122 := by omega
                      go_wp2
                      go_region
                      go_wp2
                      go_region
                      rw [← HWa.out]
                      go_wp2_with (first | (go_at_call 33; refine (HD0.out _).mono ?_; rintro e w' ⟨rfl, rfl⟩) | (go_at_call 42; refine (HS0.out _).mono ?_; rintro e w' ⟨rfl, rfl⟩) | (go_at_call 44; refine (giveUp_any _ _).mono ?_; rintro e w' ⟨rfl, rfl⟩))
                      refine ⟨rfl, HPost.out _ _ ⟨HW.out.g, ?_⟩⟩
                      rw [HX.out]
                      exact ⟨rfl, HW.out.r⟩
end Go.Proofs.YtdodkbpagbblmaaGreatDoor
end
section
namespace Go.Proofs.YtdodkbpagbblmaaGreatDoor
open Go.ChangeShapes Go.WideShapes Go.ChangeAt Go.RowKit

theorem gTab : Tryz.prog.globalNamed "math/bits.deBruijn64tab" = some 3 := by kernel_rfl
theorem gTabType : (Tryz.prog.globals[3]?).map (·.type) = some 140 := by kernel_rfl
theorem gErr : Tryz.prog.globalNamed "strconv.ErrSyntax" = some 1 := by kernel_rfl
theorem gErrType : (Tryz.prog.globals[1]?).map (·.type) = some 86 := by kernel_rfl
theorem gPowType : (Tryz.prog.globals[4]?).map (·.type) = some 142 := by kernel_rfl
theorem cellsTab : Tryz.prog.cellsOf 140 = 64 := by kernel_rfl
theorem cellsPow : Tryz.prog.cellsOf 142 = 20 := by kernel_rfl
theorem cells5 : Tryz.prog.cellsOf 5 = 1 := by kernel_rfl

theorem tab_datum {H : Type} : (Rows.laid_math_bits_deBruijn64tab : DataW H) = Lib.tabData .u8 (Lib.deBruijn64tab.map fun n : Nat => (n : Int)) := rfl
theorem pow_datum {H : Type} : (Rows.laid_internal_strconv_uint64pow10 : DataW H) = Lib.tabData .u64 Lib.pow10Tab := rfl

theorem own : ownKnob Tryz.prog.godebug = none := by kernel_rfl
theorem laidOut : laidOutB Tryz.prog = true := by kernel_rfl

/-- A variable of an interface's type is one such value. -/
theorem iface_cells {H : Type} {enc : TypeId × Value → H} {P : Program} {w : World} {base : Nat} {sp : Nat → Bool} {held : Bool} {fuel : Nat} {t : TypeId} {ms : Array (String × TypeId)} {cs : List Value} {x : DataW H × List MemPlace}
    (ht : P.underlying t = some (.interface ms)) (h : DataW.trod enc P w base sp held fuel t cs = some x) : cs = [.nilIface] ∨ ∃ u v, cs = [.iface u v] := by
  cases fuel with
  | zero => simp [DataW.trod] at h
  | succ fuel =>
    rw [DataW.trod.eq_def] at h
    simp only [ht] at h
    split at h <;> simp_all

set_option maxRecDepth 100000 in
/-- What every row's list gives: what the program's variables hold. -/
theorem glob_of_laid {W : World} (h : laidMetH Tryz.prog Rows.deflexQuotesRow.laid W) : GlobD W := by
  have hp : laidMet Tryz.prog Rows.deflexQuotesRow.laid W := h
  have hpow : Lib.TabIs Tryz.prog W "internal/strconv.uint64pow10" .u64 Lib.pow10Tab := by
    obtain ⟨g, t, cs, fuel, p, hg, ht, hv, hd⟩ := Lib.laidMet.reads hp (.tail _ (.tail _ (.head _)))
    obtain rfl := Option.some.inj (pow_global.symm.trans hg)
    obtain rfl := Option.some.inj (gPowType.symm.trans ht)
    rw [pow_datum] at hd
    have hcs := Lib.cells_of_tab Tryz.underlying142 Tryz.underlying31 (by kernel_rfl) cellsPow hd
    unfold Lib.TabIs
    rw [hv, ← hcs]
  refine ⟨⟨?_, ?_⟩, hpow, ?_⟩
  · obtain ⟨g, t, cs, fuel, p, hg, ht, hv, hd⟩ := Lib.laidMet.reads hp (.tail _ (.head _))
    obtain rfl := Option.some.inj (gTab.symm.trans hg)
    obtain rfl := Option.some.inj (gTabType.symm.trans ht)
    rw [tab_datum] at hd
    have hcs := Lib.cells_of_tab Tryz.underlying140 Tryz.underlying5 cells5 cellsTab hd
    intro j hj
    have := World.var?_cell hg hv j
    rw [this]
    have e : cs[j]? = cs.toList[j]? := by simp
    rw [e, hcs]
    simp [hj]
  · obtain ⟨g, t, cs, fuel, p, hg, ht, hv, hd⟩ := Lib.laidMet.reads hp (.tail _ (.tail _ (.tail _ (.tail _ (.head _)))))
    obtain rfl := Option.some.inj (gErr.symm.trans hg)
    obtain rfl := Option.some.inj (gErrType.symm.trans ht)
    have := World.var?_cell hg hv 0
    rcases iface_cells Tryz.underlying86 hd with hcs | ⟨u, v, hcs⟩
    · rw [Array.eq_one_of_toList hcs] at this
      exact ⟨_, this, .inl rfl⟩
    · rw [Array.eq_one_of_toList hcs] at this
      exact ⟨_, this, .inr ⟨u, v, rfl⟩⟩
  · exact lt_of_cell (Lib.TabIs.cell hpow pow_global 0 (by decide))

/-- The world of a witness: what the variables hold behind the program's start. -/
theorem door_met (os : Os) (args : Array Value) : laidMetH Tryz.prog Rows.deflexQuotesRow.laid ((World.doorLaid Tryz.prog 62 os).forCall (fun _ _ => 0) ⟨#[], args, []⟩).memory :=
  laidMetH_of_parts3 (fuel := 8) (laidMet_of_run' 8 (by kernel_rfl) (by kernel_rfl)) (by kernel_rfl) (by kernel_rfl)
end Go.Proofs.YtdodkbpagbblmaaGreatDoor
end
section
namespace Go.Proofs.YtdodkbpagbblmaaGreatDoor
open Go Go.RowKit

set_option maxHeartbeats 800000 in
theorem name_all (s : ByteArray) (w : World) : Calls Tryz.prog 19 #[.string s] w fun e w' => e = .returned (.bool (nameB s.data.toList)) ∧ w = w' := by
  have key : ∀ r, nameB s.data.toList = r → (Calls Tryz.prog 19 #[.string s] w fun e w' => e = .returned (.bool r) ∧ w = w') → Calls Tryz.prog 19 #[.string s] w fun e w' => e = .returned (.bool (nameB s.data.toList)) ∧ w = w' := fun r h k => by rw [h]; exact k
  by_cases h0 : s.size = 0
  · refine key false (by rw [(list_empty s).1 h0]; rfl) ?_
    have hem := isEmpty_of s h0
    have hem2 : (!s.toList.isEmpty) = false := by rw [hem]; rfl
    clear key h0
    go_enter Tryz.func19, Tryz.ntmps19
    go_wp2
    go_ret
    simp
  · have hem := isEmpty_not s h0
    have hem2 : (!s.toList.isEmpty) = true := by rw [hem]; rfl
    obtain ⟨b, hb⟩ : ∃ b, b = (s[0]'(by omega)).toNat := ⟨_, rfl⟩
    have hi : ∀ h, (s[0]'h).toNat = b := fun h => hb.symm
    have hE : nameB s.data.toList = (decide (s.size ≤ 64) && !digB b && decide (runL s.data.toList = s.size)) := by
      have h := drop_at s 0 (by omega)
      rw [List.drop_zero] at h
      rw [Lib.size_eq, h, hb]
      rfl
    have HE := Lib.hid hE
    have HD := Lib.hid (isDigit_any b w)
    have HRq := fun h : s.size ≤ 140737488351232 => Lib.hid (runLength_any s h w)
    have n0 : (0 : Int) < (s.size : Int) := by omega
    clear hb hE
    by_cases h1 : s.size ≤ 64
    · have d1 : (s.size : Int) ≤ 64 := by omega
      have HR := HRq (by omega)
      clear HRq
      cases hd : digB b with
      | true =>
        refine key false (by rw [HE.out, hd]; simp) ?_
        rw [hd] at HD
        clear key HE hd h0
        go_enter Tryz.func19, Tryz.ntmps19
        go_wp2_with (first | (go_at_call 33; refine HD.out.mono ?_; rintro e w' ⟨rfl, rfl⟩) | (go_at_call 34; refine HR.out.mono ?_; rintro e w' ⟨rfl, rfl⟩))
        go_ret
        simp
      | false =>
        rw [hd] at HD
        obtain ⟨q, hq⟩ : ∃ q, q = runL s.data.toList := ⟨_, rfl⟩
        rw [← hq] at HR HE
        by_cases h2 : q = s.size
        · refine key true (by rw [HE.out, hd]; simp [h1, h2]) ?_
          have d2 : ((q : Int) == (s.size : Int)) = true := by rw [beq_iff_eq]; omega
          clear key HE hd h0 hq h2
          go_enter Tryz.func19, Tryz.ntmps19
          go_wp2_with (first | (go_at_call 33; refine HD.out.mono ?_; rintro e w' ⟨rfl, rfl⟩) | (go_at_call 34; refine HR.out.mono ?_; rintro e w' ⟨rfl, rfl⟩))
          go_ret
          simp
        · refine key false (by rw [HE.out, hd]; simp [h1, h2]) ?_
          have d2 : ((q : Int) == (s.size : Int)) = false := by rw [beq_eq_false_iff_ne]; omega
          clear key HE hd h0 hq h2
          go_enter Tryz.func19, Tryz.ntmps19
          go_wp2_with (first | (go_at_call 33; refine HD.out.mono ?_; rintro e w' ⟨rfl, rfl⟩) | (go_at_call 34; refine HR.out.mono ?_; rintro e w' ⟨rfl, rfl⟩))
          go_ret
          simp
    · have d1 : ¬ (s.size : Int) ≤ 64 := by omega
      clear HRq
      refine key false (by rw [HE.out]; simp [h1]) ?_
      clear key HE h0
      go_enter Tryz.func19, Tryz.ntmps19
      go_wp2
      go_ret
      simp
end Go.Proofs.YtdodkbpagbblmaaGreatDoor
end
section
namespace Go.Proofs.YtdodkbpagbblmaaGreatDoor
open Go Go.RowKit

theorem letter_any (b : Nat) (hb : b < 256) (w : World) : Calls Tryz.prog 35 #[.int .u8 b] w fun e w' => e = .returned (.bool (letB b || decide (b = 95))) ∧ w = w' := by
  have key : ∀ r, (letB b || decide (b = 95)) = r → (Calls Tryz.prog 35 #[.int .u8 b] w fun e w' => e = .returned (.bool r) ∧ w = w') → Calls Tryz.prog 35 #[.int .u8 b] w fun e w' => e = .returned (.bool (letB b || decide (b = 95))) ∧ w = w' := fun r h k => by rw [h]; exact k
  have hc : (0 ≤ b ∧ b ≤ 64) ∨ (65 ≤ b ∧ b ≤ 90) ∨ (91 ≤ b ∧ b ≤ 94) ∨ (95 ≤ b ∧ b ≤ 95) ∨ (96 ≤ b ∧ b ≤ 96) ∨ (97 ≤ b ∧ b ≤ 122) ∨ (123 ≤ b ∧ b ≤ 255) := by omega
  rcases hc with ⟨l, u⟩ | ⟨l, u⟩ | ⟨l, u⟩ | ⟨l, u⟩ | ⟨l, u⟩ | ⟨l, u⟩ | ⟨l, u⟩
  · refine key false (by simp [letB, digB, namB]; omega) ?_
    have d1 : ¬ (97 : Int) ≤ b := by omega
    have d2 : (b : Int) ≤ 122 := by omega
    have d3 : ¬ (65 : Int) ≤ b := by omega
    have d4 : (b : Int) ≤ 90 := by omega
    have d5 : ((b : Int) == 95) = false := by rw [beq_eq_false_iff_ne]; omega
    clear key l u
    go_enter Tryz.func35, Tryz.ntmps35
    go_wp2
    go_ret
    simp
  · refine key true (by simp [letB, digB, namB]; omega) ?_
    have d1 : ¬ (97 : Int) ≤ b := by omega
    have d2 : (b : Int) ≤ 122 := by omega
    have d3 : (65 : Int) ≤ b := by omega
    have d4 : (b : Int) ≤ 90 := by omega
    have d5 : ((b : Int) == 95) = false := by rw [beq_eq_false_iff_ne]; omega
    clear key l u
    go_enter Tryz.func35, Tryz.ntmps35
    go_wp2
    go_ret
    simp
  · refine key false (by simp [letB, digB, namB]; omega) ?_
    have d1 : ¬ (97 : Int) ≤ b := by omega
    have d2 : (b : Int) ≤ 122 := by omega
    have d3 : (65 : Int) ≤ b := by omega
    have d4 : ¬ (b : Int) ≤ 90 := by omega
    have d5 : ((b : Int) == 95) = false := by rw [beq_eq_false_iff_ne]; omega
    clear key l u
    go_enter Tryz.func35, Tryz.ntmps35
    go_wp2
    go_ret
    simp
  · refine key true (by simp [letB, digB, namB]; omega) ?_
    have d1 : ¬ (97 : Int) ≤ b := by omega
    have d2 : (b : Int) ≤ 122 := by omega
    have d3 : (65 : Int) ≤ b := by omega
    have d4 : ¬ (b : Int) ≤ 90 := by omega
    have d5 : ((b : Int) == 95) = true := by rw [beq_iff_eq]; omega
    clear key l u
    go_enter Tryz.func35, Tryz.ntmps35
    go_wp2
    go_ret
    simp
  · refine key false (by simp [letB, digB, namB]; omega) ?_
    have d1 : ¬ (97 : Int) ≤ b := by omega
    have d2 : (b : Int) ≤ 122 := by omega
    have d3 : (65 : Int) ≤ b := by omega
    have d4 : ¬ (b : Int) ≤ 90 := by omega
    have d5 : ((b : Int) == 95) = false := by rw [beq_eq_false_iff_ne]; omega
    clear key l u
    go_enter Tryz.func35, Tryz.ntmps35
    go_wp2
    go_ret
    simp
  · refine key true (by simp [letB, digB, namB]; omega) ?_
    have d1 : (97 : Int) ≤ b := by omega
    have d2 : (b : Int) ≤ 122 := by omega
    have d3 : (65 : Int) ≤ b := by omega
    have d4 : ¬ (b : Int) ≤ 90 := by omega
    have d5 : ((b : Int) == 95) = false := by rw [beq_eq_false_iff_ne]; omega
    clear key l u
    go_enter Tryz.func35, Tryz.ntmps35
    go_wp2
    go_ret
    simp
  · refine key false (by simp [letB, digB, namB]; omega) ?_
    have d1 : (97 : Int) ≤ b := by omega
    have d2 : ¬ (b : Int) ≤ 122 := by omega
    have d3 : (65 : Int) ≤ b := by omega
    have d4 : ¬ (b : Int) ≤ 90 := by omega
    have d5 : ((b : Int) == 95) = false := by rw [beq_eq_false_iff_ne]; omega
    clear key l u
    go_enter Tryz.func35, Tryz.ntmps35
    go_wp2
    go_ret
    simp

theorem rdigit_any (b : Nat) (hb : b < 256) (w : World) : Calls Tryz.prog 36 #[.int .u8 b] w fun e w' => e = .returned (.bool (digB b)) ∧ w = w' := by
  have key : ∀ r, (digB b) = r → (Calls Tryz.prog 36 #[.int .u8 b] w fun e w' => e = .returned (.bool r) ∧ w = w') → Calls Tryz.prog 36 #[.int .u8 b] w fun e w' => e = .returned (.bool (digB b)) ∧ w = w' := fun r h k => by rw [h]; exact k
  have hc : (0 ≤ b ∧ b ≤ 47) ∨ (48 ≤ b ∧ b ≤ 57) ∨ (58 ≤ b ∧ b ≤ 255) := by omega
  rcases hc with ⟨l, u⟩ | ⟨l, u⟩ | ⟨l, u⟩
  · refine key false (by simp [letB, digB, namB]; omega) ?_
    have d1 : ¬ (48 : Int) ≤ b := by omega
    have d2 : (b : Int) ≤ 57 := by omega
    clear key l u
    go_enter Tryz.func36, Tryz.ntmps36
    go_wp2
    go_ret
    simp
  · refine key true (by simp [letB, digB, namB]; omega) ?_
    have d1 : (48 : Int) ≤ b := by omega
    have d2 : (b : Int) ≤ 57 := by omega
    clear key l u
    go_enter Tryz.func36, Tryz.ntmps36
    go_wp2
    go_ret
    simp
  · refine key false (by simp [letB, digB, namB]; omega) ?_
    have d1 : (48 : Int) ≤ b := by omega
    have d2 : ¬ (b : Int) ≤ 57 := by omega
    clear key l u
    go_enter Tryz.func36, Tryz.ntmps36
    go_wp2
    go_ret
    simp

/-- The document's name. -/
theorem nameB_not (l : List UInt8) (h : runL l < l.length) : nameB l = false := by
  cases l with
  | nil => rfl
  | cons c r =>
    show (decide ((c :: r).length ≤ 64) && !digB c.toNat && decide (runL (c :: r) = (c :: r).length)) = false
    rw [decide_eq_false (p := runL (c :: r) = (c :: r).length) (by omega), Bool.and_false]
theorem nameB_dig (c : UInt8) (r : List UInt8) (h : digB c.toNat = true) : nameB (c :: r) = false := by
  show (decide ((c :: r).length ≤ 64) && !digB c.toNat && decide (runL (c :: r) = (c :: r).length)) = false
  rw [h]
  simp
theorem nam_split (b : Nat) : namB b = ((letB b || decide (b = 95)) || digB b) := by
  unfold namB
  cases letB b <;> cases digB b <;> simp

set_option maxRecDepth 100000 in
set_option maxHeartbeats 4000000 in
theorem rname_any (s : ByteArray) (hs : s.size ≤ 140737488351232) (w : World) : Calls Tryz.prog 20 #[.string s] w fun e w' => e = .returned (.bool (nameB s.data.toList)) ∧ w = w' := by
  obtain ⟨r, hr⟩ : ∃ r, r = nameB s.data.toList := ⟨_, rfl⟩
  have HR := Lib.hid hr
  rw [← hr]
  clear hr
  have HL := fun (b : Nat) (h : b < 256) w' => Lib.hid (letter_any b h w')
  have HD := fun (b : Nat) (h : b < 256) w' => Lib.hid (rdigit_any b h w')
  go_enter Tryz.func20, Tryz.ntmps20
  go_wp2
  go_loopw [3] (fun i wr => ∃ m : Nat, i = .int .i64 m ∧ m ≤ s.size ∧ Hid (m ≤ runL s.data.toList ∧ (∀ c t, s.data.toList = c :: t → 0 < m → (letB c.toNat || decide (c.toNat = 95)) = true)) ∧ wr = w)
    (fun i _ => s.size - (intOf i).toNat)
  case atStart => exact ⟨0, rfl, Nat.zero_le _, Lib.hid ⟨Nat.zero_le _, fun c t _ h => absurd h (by omega)⟩, rfl⟩
  case round =>
    obtain ⟨m, rfl, hm, hI, rfl⟩ := hrel
    have hlen : runL s.data.toList ≤ s.size := by rw [Lib.size_eq]; exact runL_le _
    have HLn := Lib.hid hlen
    clear hlen
    by_cases hlt : m < s.size
    · have n1 : (m : Int) < (s.size : Int) := by omega
      obtain ⟨b, hb⟩ : ∃ b, b = (s[m]'hlt).toNat := ⟨_, rfl⟩
      have hb256 : b < 256 := by rw [hb]; exact (s[m]'hlt).toNat_lt
      have hi : ∀ h, (s[m]'h).toNat = b := fun h => hb.symm
      have hdr := drop_at s m hlt
      have hrd := runL_drop s.data.toList m hI.out.1
      rw [hdr, runL_cons, hb.symm] at hrd
      have HRD := Lib.hid hrd
      have hl := HL b hb256
      have hd := HD b hb256
      have hns := nam_split b
      by_cases h0 : m = 0
      · subst h0
        have hcons : s.data.toList = s[0] :: s.data.toList.drop 1 := by
          have h := drop_at s 0 hlt
          rw [List.drop_zero] at h
          exact h
        cases hlb : (letB b || decide (b = 95)) with
        | true =>
          rw [hlb] at hl hns
          have HI2 : Hid (0 + 1 ≤ runL s.data.toList ∧ (∀ c t, s.data.toList = c :: t → 0 < 0 + 1 → (letB c.toNat || decide (c.toNat = 95)) = true)) := by
            refine Lib.hid ⟨?_, fun c t hc _ => ?_⟩
            · rw [HRD.out, hns]; simp
            · rw [hcons] at hc
              obtain ⟨rfl, _⟩ := List.cons.inj hc
              rw [← hb]; exact hlb
          clear hb hrd hdr hcons hlb hns
          go_wp2_with (first | (go_at_call 35; refine (hl _).out.mono ?_; rintro e w' ⟨rfl, rfl⟩) | (go_at_call 36; refine (hd _).out.mono ?_; rintro e w' ⟨rfl, rfl⟩))
          go_roundw
          case rel => exact ⟨0 + 1, by go_num, by omega, HI2, by first | rfl | trivial⟩
          case measure => simp [intOf]; omega
        | false =>
          rw [hlb] at hl hns
          have hR : r = false := by
            rw [HR.out]
            cases hdb : digB b with
            | true => rw [hcons]; exact nameB_dig _ _ (by rw [← hb]; exact hdb)
            | false =>
              refine nameB_not _ ?_
              rw [HRD.out, hns, hdb, ← Lib.size_eq]
              simpa using hlt
          subst hR
          clear hb hrd hdr hcons hlb hns HR
          go_wp2_with (first | (go_at_call 35; refine (hl _).out.mono ?_; rintro e w' ⟨rfl, rfl⟩) | (go_at_call 36; refine (hd _).out.mono ?_; rintro e w' ⟨rfl, rfl⟩))
          go_ret
          simp
      · have n2 : ¬ (m : Int) = 0 := by omega
        have n3 : ((m : Int) == 0) = false := by rw [beq_eq_false_iff_ne]; omega
        cases hnb : namB b with
        | true =>
          have HI2 : Hid (m + 1 ≤ runL s.data.toList ∧ (∀ c t, s.data.toList = c :: t → 0 < m + 1 → (letB c.toNat || decide (c.toNat = 95)) = true)) := by
            refine Lib.hid ⟨?_, fun c t hc _ => hI.out.2 c t hc (by omega)⟩
            rw [HRD.out, hnb]
            simp
          rw [hnb] at hns
          cases hlb : (letB b || decide (b = 95)) with
          | true =>
            rw [hlb] at hl
            clear hb hrd hdr hlb hns hnb h0
            go_wp2_with (first | (go_at_call 35; refine (hl _).out.mono ?_; rintro e w' ⟨rfl, rfl⟩) | (go_at_call 36; refine (hd _).out.mono ?_; rintro e w' ⟨rfl, rfl⟩))
            go_roundw
            case rel => exact ⟨m + 1, by go_num, by omega, HI2, by first | rfl | trivial⟩
            case measure => simp [intOf]; omega
          | false =>
            rw [hlb, Bool.false_or] at hns
            rw [hlb] at hl
            rw [← hns] at hd
            clear hb hrd hdr hlb hns hnb h0
            go_wp2_with (first | (go_at_call 35; refine (hl _).out.mono ?_; rintro e w' ⟨rfl, rfl⟩) | (go_at_call 36; refine (hd _).out.mono ?_; rintro e w' ⟨rfl, rfl⟩))
            go_roundw
            case rel => exact ⟨m + 1, by go_num, by omega, HI2, by first | rfl | trivial⟩
            case measure => simp [intOf]; omega
        | false =>
          rw [hnb] at hns
          have hns2 := hns.symm
          rw [Bool.or_eq_false_iff] at hns2
          have hR : r = false := by
            rw [HR.out]
            refine nameB_not _ ?_
            rw [HRD.out, hnb, ← Lib.size_eq]
            simpa using hlt
          subst hR
          rw [hns2.1] at hl
          rw [hns2.2] at hd
          clear hb hrd hdr hns hnb h0 hns2 HR
          go_wp2_with (first | (go_at_call 35; refine (hl _).out.mono ?_; rintro e w' ⟨rfl, rfl⟩) | (go_at_call 36; refine (hd _).out.mono ?_; rintro e w' ⟨rfl, rfl⟩))
          go_ret
          simp
    · obtain rfl : m = s.size := by omega
      have hrun : runL s.data.toList = s.size := by have := HLn.out; have := hI.out.1; omega
      by_cases h0 : s.size = 0
      · have hR : r = false := by rw [HR.out, (list_empty s).1 h0]; rfl
        subst hR
        have n1 : ¬ (0 : Int) < (s.size : Int) := by omega
        clear HR hrun h0
        go_wp2
        go_ret
        simp
      · have hlist : ∃ c t, s.data.toList = c :: t := by
          cases hl : s.data.toList with
          | nil => exact absurd ((list_empty s).2 hl) h0
          | cons c t => exact ⟨c, t, rfl⟩
        obtain ⟨c, t, hct⟩ := hlist
        have hlc := hI.out.2 c t hct (by omega)
        have hdc : digB c.toNat = false := by
          cases hd : digB c.toNat with
          | false => rfl
          | true =>
            have hd2 : 48 ≤ c.toNat ∧ c.toNat ≤ 57 := by simpa [digB] using hd
            simp [letB] at hlc
            omega
        have hR : r = decide (s.size ≤ 64) := by
          rw [HR.out, hct]
          show (decide ((c :: t).length ≤ 64) && !digB c.toNat && decide (runL (c :: t) = (c :: t).length)) = _
          rw [hdc, ← hct, hrun, ← Lib.size_eq]
          simp
        have n1 : (0 : Int) < (s.size : Int) := by omega
        by_cases h64 : s.size ≤ 64
        · have n2 : (s.size : Int) ≤ 64 := by omega
          rw [decide_eq_true h64] at hR
          subst hR
          clear HR hrun h0 hct hlc hdc h64
          go_wp2
          go_ret
          simp
        · have n2 : ¬ (s.size : Int) ≤ 64 := by omega
          rw [decide_eq_false h64] at hR
          subst hR
          clear HR hrun h0 hct hlc hdc h64
          go_wp2
          go_ret
          simp
end Go.Proofs.YtdodkbpagbblmaaGreatDoor
end
section
namespace Go.Proofs.YtdodkbpagbblmaaGreatDoor
open Go Go.RowKit

/-- Does a byte's text stand at a text's beginning? -/
def matchB (l : List UInt8) (b : Nat) : Prop := byteT b <+: l.map UInt8.toNat

theorem hexs_two (c d : UInt8) : hexs 0 [c, d] = (match hexD c.toNat, hexD d.toNat with | some a, some b => some (16 * a + b) | _, _ => none) := by
  unfold hexs
  cases h1 : hexD c.toNat with
  | none => rfl
  | some a =>
    simp only [Nat.zero_mul, Nat.zero_add]
    unfold hexs
    cases h2 : hexD d.toNat with
    | none => rfl
    | some b =>
      simp only
      unfold hexs
      congr 1; omega

theorem hexD_lt (c : Nat) (hc : c < 256) (a : Nat) (h : hexD c = some a) : a < 16 := by
  have hall : ∀ c : Fin 256, ∀ a, hexD c.val = some a → a < 16 := by
    intro c a h
    have h2 : ∀ c : Fin 256, (hexD c.val).all (fun a => decide (a < 16)) = true := by decide +kernel
    have := h2 c
    rw [h] at this
    simpa using this
  exact hall ⟨c, hc⟩ a h

theorem hexD_C : ∀ b : Fin 256, (hexD (hexC (b.val / 16)) = some (b.val / 16)) ∧ (hexD (hexC (b.val % 16)) = some (b.val % 16)) := by decide +kernel

theorem byteT_cases (b : Nat) : (b = 9 ∧ byteT b = [92, 116]) ∨ (b = 10 ∧ byteT b = [92, 110]) ∨ (b = 13 ∧ byteT b = [92, 114]) ∨ (signB b = true ∧ byteT b = [92, b]) ∨ (signB b = false ∧ (32 < b ∧ b ≤ 126) ∧ byteT b = [b]) ∨ (byteT b = [92, 120, hexC (b / 16), hexC (b % 16)]) := by
  unfold byteT
  by_cases c1 : b = 9
  · exact .inl ⟨c1, by rw [if_pos c1]⟩
  · by_cases c2 : b = 10
    · exact .inr (.inl ⟨c2, by rw [if_neg c1, if_pos c2]⟩)
    · by_cases c3 : b = 13
      · exact .inr (.inr (.inl ⟨c3, by rw [if_neg c1, if_neg c2, if_pos c3]⟩))
      · cases hs : signB b with
        | true => exact .inr (.inr (.inr (.inl ⟨rfl, by rw [if_neg c1, if_neg c2, if_neg c3]; rfl⟩)))
        | false =>
          by_cases c5 : 32 < b ∧ b ≤ 126
          · exact .inr (.inr (.inr (.inr (.inl ⟨rfl, c5, by rw [if_neg c1, if_neg c2, if_neg c3, if_neg (by simp), if_pos c5]⟩))))
          · exact .inr (.inr (.inr (.inr (.inr (by rw [if_neg c1, if_neg c2, if_neg c3, if_neg (by simp), if_neg c5])))))

theorem map_pre1 {l : List UInt8} {x : Nat} (h : [x] <+: l.map UInt8.toNat) : ∃ c r, l = c :: r ∧ c.toNat = x := by
  cases l with
  | nil => obtain ⟨t, ht⟩ := h; simp at ht
  | cons c r => obtain ⟨t, ht⟩ := h; simp at ht; exact ⟨c, r, rfl, ht.1.symm⟩
theorem map_pre2 {l : List UInt8} {x y : Nat} (h : [x, y] <+: l.map UInt8.toNat) : ∃ c d r, l = c :: d :: r ∧ c.toNat = x ∧ d.toNat = y := by
  match l with
  | [] => obtain ⟨t, ht⟩ := h; simp at ht
  | [c] => obtain ⟨t, ht⟩ := h; simp at ht
  | c :: d :: r => obtain ⟨t, ht⟩ := h; simp at ht; exact ⟨c, d, r, rfl, ht.1.symm, ht.2.1.symm⟩
theorem map_pre4 {l : List UInt8} {x y z u : Nat} (h : [x, y, z, u] <+: l.map UInt8.toNat) : ∃ c d e f r, l = c :: d :: e :: f :: r ∧ c.toNat = x ∧ d.toNat = y ∧ e.toNat = z ∧ f.toNat = u := by
  match l with
  | [] => obtain ⟨t, ht⟩ := h; simp at ht
  | [c] => obtain ⟨t, ht⟩ := h; simp at ht
  | [c, d] => obtain ⟨t, ht⟩ := h; simp at ht
  | [c, d, e] => obtain ⟨t, ht⟩ := h; simp at ht
  | c :: d :: e :: f :: r => obtain ⟨t, ht⟩ := h; simp at ht; exact ⟨c, d, e, f, r, rfl, ht.1.symm, ht.2.1.symm, ht.2.2.1.symm, ht.2.2.2.1.symm⟩

/-- A byte whose text stands there is the one that is read there. -/
theorem match_byteB (l : List UInt8) (b : Nat) (hb : b < 256) (h : matchB l b) : byteB l = (b, (byteT b).length) := by
  unfold matchB at h
  rcases byteT_cases b with ⟨rfl, e⟩ | ⟨rfl, e⟩ | ⟨rfl, e⟩ | ⟨hs, e⟩ | ⟨hs, hr, e⟩ | e
  · rw [e] at h ⊢
    obtain ⟨c, d, r, rfl, hc, hd⟩ := map_pre2 h
    simp [byteB, escB, hc, hd]
  · rw [e] at h ⊢
    obtain ⟨c, d, r, rfl, hc, hd⟩ := map_pre2 h
    simp [byteB, escB, hc, hd]
  · rw [e] at h ⊢
    obtain ⟨c, d, r, rfl, hc, hd⟩ := map_pre2 h
    simp [byteB, escB, hc, hd]
  · rw [e] at h ⊢
    obtain ⟨c, d, r, rfl, hc, hd⟩ := map_pre2 h
    have hcs : b = 92 ∨ b = 91 ∨ b = 93 ∨ b = 45 ∨ b = 94 := by
      unfold signB at hs; simp only [Bool.or_eq_true, beq_iff_eq] at hs; omega
    have n1 : ¬ b = 116 := by omega
    have n2 : ¬ b = 110 := by omega
    have n3 : ¬ b = 114 := by omega
    simp [byteB, escB, hc, hd, n1, n2, n3, hs]
  · rw [e] at h ⊢
    obtain ⟨c, r, rfl, hc⟩ := map_pre1 h
    have hn : ¬ b = 92 := by intro e; subst e; cases hs
    have h1 : 32 ≤ b := by omega
    simp [byteB, hc, hn, hs, h1, hr.2]
  · rw [e] at h ⊢
    obtain ⟨c, d, x, y, r, rfl, hc, hd, hx, hy⟩ := map_pre4 h
    have hk : hexs 0 [x, y] = some b := by
      rw [hexs_two, hx, hy, (hexD_C ⟨b, hb⟩).1, (hexD_C ⟨b, hb⟩).2]
      simp only
      congr 1; omega
    have n1 : signB 120 = false := by decide
    simp [byteB, escB, hc, hd, n1, hk, Nat.mod_eq_of_lt hb]

/-- What is read there stands there by its text, or is a blank, or an escape by digits. -/
theorem byteB_match (l : List UInt8) (h : (byteB l).2 ≠ 0) : matchB l (byteB l).1 ∨ (∃ c r, l = c :: r ∧ c.toNat = 32) ∨ ∃ c d x y r, l = c :: d :: x :: y :: r ∧ c.toNat = 92 ∧ d.toNat = 120 ∧ hexD x.toNat ≠ none ∧ hexD y.toNat ≠ none := by
  cases l with
  | nil => exact absurd rfl h
  | cons c r =>
    by_cases hc : c.toNat = 92
    · have he : byteB (c :: r) = escB (c :: r) := by simp [byteB, hc]
      rw [he] at h ⊢
      cases r with
      | nil => exact absurd rfl h
      | cons d r =>
        unfold escB at h ⊢
        dsimp only at h ⊢
        by_cases k1 : d.toNat = 116
        · left; rw [if_pos k1]; unfold matchB; rw [show byteT 9 = [92, 116] from rfl]; exact ⟨r.map UInt8.toNat, by simp [hc, k1]⟩
        · by_cases k2 : d.toNat = 110
          · left; rw [if_neg k1, if_pos k2]; unfold matchB; rw [show byteT 10 = [92, 110] from rfl]; exact ⟨r.map UInt8.toNat, by simp [hc, k2]⟩
          · by_cases k3 : d.toNat = 114
            · left; rw [if_neg k1, if_neg k2, if_pos k3]; unfold matchB; rw [show byteT 13 = [92, 114] from rfl]; exact ⟨r.map UInt8.toNat, by simp [hc, k3]⟩
            · by_cases k4 : signB d.toNat = true
              · left; rw [if_neg k1, if_neg k2, if_neg k3, if_pos k4]; unfold matchB
                have hcs : d.toNat = 92 ∨ d.toNat = 91 ∨ d.toNat = 93 ∨ d.toNat = 45 ∨ d.toNat = 94 := by
                  unfold signB at k4; simp only [Bool.or_eq_true, beq_iff_eq] at k4; omega
                have ht : byteT d.toNat = [92, d.toNat] := by rcases hcs with e | e | e | e | e <;> rw [e] <;> rfl
                rw [ht]; exact ⟨r.map UInt8.toNat, by simp [hc]⟩
              · rw [if_neg k1, if_neg k2, if_neg k3, if_neg k4] at h ⊢
                by_cases k5 : d.toNat = 120 ∧ 2 ≤ r.length
                · rw [if_pos k5] at h ⊢
                  right; right
                  match r, k5, h with
                  | x :: y :: r, k5, h =>
                    refine ⟨c, d, x, y, r, rfl, hc, k5.1, ?_, ?_⟩
                    · intro hn
                      simp [hexs_two, hn] at h
                    · intro hn
                      simp [hexs_two, hn] at h
                · rw [if_neg k5] at h; exact absurd rfl h
    · by_cases hr : 32 ≤ c.toNat ∧ c.toNat ≤ 126 ∧ signB c.toNat = false
      · have he : byteB (c :: r) = (c.toNat, 1) := by simp [byteB, hc, hr]
        rw [he]
        by_cases h32 : c.toNat = 32
        · exact .inr (.inl ⟨c, r, rfl, h32⟩)
        · left
          unfold matchB
          have ht : byteT c.toNat = [c.toNat] := by
            rcases byteT_cases c.toNat with ⟨e, _⟩ | ⟨e, _⟩ | ⟨e, _⟩ | ⟨e, _⟩ | ⟨_, _, e⟩ | e
            · omega
            · omega
            · omega
            · rw [hr.2.2] at e; cases e
            · exact e
            · unfold byteT at e ⊢
              rw [if_neg (by omega), if_neg (by omega), if_neg (by omega), hr.2.2, if_neg (by simp), if_pos (by omega)]
          rw [ht]
          exact ⟨r.map UInt8.toNat, by simp⟩
      · have he : byteB (c :: r) = (0, 0) := by simp only [byteB, if_neg hc, if_neg hr]
        rw [he] at h; exact absurd rfl h
end Go.Proofs.YtdodkbpagbblmaaGreatDoor
end
