import Derived.Lib.AtoiBound
import Derived.Deep.RegionWith
import Derived.Test.YtdodkbpagbblmaaDoorQ6
namespace Go.Proofs.YtdodkbpagbblmaaDoor
open Go Go.RowKit

theorem pow_global : Tryd.prog.globalNamed "internal/strconv.uint64pow10" = some 4 := by kernel_rfl
/-- What the program's variables hold, the powers of ten with them. -/
structure GlobD (w : World) : Prop where
  base : Glob w
  pow : Lib.TabIs Tryd.prog w "internal/strconv.uint64pow10" .u64 Lib.pow10Tab
  big : 4 < w.heap.size
theorem GlobD.below {w w' : World} {n : Nat} (h : GlobD w) (hn : w.heap.size ≤ n) (hB : Below n w w') : GlobD w' :=
  ⟨h.base.below hn hB, var?_below hB pow_global (Nat.lt_of_lt_of_le h.big hn) h.pow, Nat.lt_of_lt_of_le h.big hB.size⟩
theorem below_grow {w : World} (k : Nat) (os : Array Obj) : Below w.heap.size w (Sort.grow (w.drewN k) os) :=
  ⟨rfl, rfl, rfl, by show w.heap.size ≤ (w.heap ++ os).size; simp, fun i hi => by show (w.heap ++ os)[i]? = w.heap[i]?; rw [Array.getElem?_append_left hi]⟩

theorem itoa_any (v : Int) (h0 : -9223372036854775808 ≤ v) (h1 : v ≤ 9223372036854775807) (w : World) (hG : GlobD w) :
    Calls Tryd.prog 39 #[.int .i64 v] w fun e w' => e = .returned (.string ⟨(Lib.itoa v).toArray⟩) ∧ Below w.heap.size w w' :=
  (Tryd.strconv_Itoa v h0 h1 w hG.pow).mono fun e w' ⟨a, k, os, b⟩ => ⟨a, b ▸ below_grow k os⟩

/-- The number at a text's beginning. -/
def numO (l : List UInt8) : Option Int :=
  if runL l ≤ 9 then (match Lib.atoi (l.take (runL l)) with
    | some v => if Lib.itoa v = l.take (runL l) then some v else none
    | none => none) else none

/-- What a number's reading leaves. -/
def NumP (B : Nat) (t : ByteArray) (k q : Nat) (w : World) (v : Option Int) (e : Ending) (w' : World) : Prop :=
  w.grownBy w' (some B) ∧ match v with
    | some n => e = .returned (.int .i64 n) ∧ Rdr w' B t (k + q)
    | none => e = .panicked gone ∧ Rdr w' B t k

set_option maxRecDepth 100000 in
set_option maxHeartbeats 8000000 in
theorem readNumber_any (B : Nat) (t : ByteArray) (k : Nat) (ht : t.size ≤ 1048576) (hk : k ≤ t.size) (w : World) (hG : GlobD w) (hB : Rdr w B t k) :
    Calls Tryd.prog 24 #[.pointer (some ⟨B, 0, none⟩)] w (NumP B t k (runL (t.data.toList.drop k)) w (numO (t.data.toList.drop k))) := by
  have c0 : w.cell? ⟨B, 0, none⟩ = some (.string t) := hB.cell 0
  have c1 : w.cell? ⟨B, 1, none⟩ = some (.int .i64 (k : Int)) := hB.cell 1
  have n2 : (0 : Int) ≤ (k : Int) := by omega
  have n3 : (k : Int) ≤ (t.size : Int) := by omega
  have hsz : (t.extract k t.size).size = t.size - k := by rw [ByteArray.size_extract]; omega
  have hls : (t.extract k t.size).data.toList = t.data.toList.drop k := extract_drop t k
  have hrl := runL_le (t.data.toList.drop k)
  rw [drop_len] at hrl
  have HR := runLength_any (t.extract k t.size) (by omega)
  rw [hls] at HR
  obtain ⟨q, hq⟩ : ∃ q, q = runL (t.data.toList.drop k) := ⟨_, rfl⟩
  have hnO : numO (t.data.toList.drop k) = if q ≤ 9 then (match Lib.atoi ((t.data.toList.drop k).take q) with
    | some v => if Lib.itoa v = (t.data.toList.drop k).take q then some v else none
    | none => none) else none := by unfold numO; rw [hq]
  have hrx := rest_list t k q
  have hxs : ((t.extract k t.size).extract 0 q).size = q := by rw [ByteArray.size_extract]; omega
  rw [← hq] at hrl HR ⊢
  have HR := fun w' => Lib.hid (HR w')
  have HB := Lib.hid hB
  have hBd : Rdr w.drew B t k := hB
  have n4 : (q : Int) ≤ ((t.size - k : Nat) : Int) := by omega
  have n5 : (0 : Int) ≤ (q : Int) := by omega
  clear hq hls hB
  have HnO := Lib.hid hnO
  have Hrx := Lib.hid hrx
  clear hnO hrx
  by_cases h9 : q ≤ 9
  · have d9 : ¬ (9 : Int) < (q : Int) := by omega
    have HG0 := Lib.hid (hG.below (Nat.le_refl _) (Below.refl w.heap.size w).drew)
    obtain ⟨x, hx⟩ : ∃ x, x = (t.extract k t.size).extract 0 q := ⟨_, rfl⟩
    rw [← hx] at hxs Hrx
    cases ha : Lib.atoi ((t.data.toList.drop k).take q) with
    | none =>
      have HO : Hid (numO (t.data.toList.drop k) = none) := Lib.hid (by rw [HnO.out, if_pos h9, ha])
      obtain ⟨ev, hv, hev⟩ := HG0.out.base.2
      have HA := Tryd.strconv_Atoi_err x (by omega) (by rw [Hrx.out]; exact ha) ev w.drew hv hev
      rw [hx] at HA
      have HA := Lib.hid HA
      clear HnO Hrx ha hv hev hG hx hxs
      have HQ : Hid (NumP B t k q w (numO (t.data.toList.drop k)) = NumP B t k q w none) := Lib.hid (by rw [HO.out])
      rw [HQ.out]
      go_enter Tryd.func24, Tryd.ntmps24
      go_wp2
      go_region
      go_wp2_with (go_at_call 34; refine (HR _).out.mono ?_; rintro e w' ⟨rfl, rfl⟩)
      refine HA.out.mono ?_
      rintro e w1 ⟨N, rfl, hN, hN2, hB1⟩
      have hR1 := Lib.hid (Blk.below hBd hB1 hBd.lt)
      have hg1 : Hid (w.grownBy w1 (some B)) := Lib.hid (let h := grown_of_below' hB1 (some B); ⟨h.os, h.tape, h.output, h.size, h.block⟩)
      clear hN2 hB1 HA
      go_wp2
      go_region
      all_goals
        go_wp2_with (go_at_call 29; refine (giveUp_any _ _).mono ?_; rintro e w' ⟨rfl, rfl⟩)
        exact ⟨rfl, grown_drew hg1.out, rfl, hR1.out⟩
    | some v =>
      have hbd := Lib.atoi_bound ha (by rw [List.length_take]; omega)
      have HA := Tryd.strconv_Atoi x v (by omega) (by rw [Hrx.out]; exact ha) w.drew
      rw [hx] at HA
      have HA := Lib.hid HA
      have HIt := fun W (hW : GlobD W) => itoa_any v (by omega) (by omega) W hW
      have HIt := Lib.hid HIt
      have HX := Lib.hid (hx.symm.trans rfl)
      have Hsz0 := Lib.hid hxs
      by_cases hi : Lib.itoa v = (t.data.toList.drop k).take q
      · have HO : Hid (numO (t.data.toList.drop k) = some v) := Lib.hid (by rw [HnO.out, if_pos h9, ha]; simp only; rw [if_pos hi])
        have HQ : Hid (NumP B t k q w (numO (t.data.toList.drop k)) = NumP B t k q w (some v)) := Lib.hid (by rw [HO.out])
        rw [HQ.out]
        have hse : ((⟨(Lib.itoa v).toArray⟩ : ByteArray).toList == ((t.extract k t.size).extract 0 q).toList) = true := by
          rw [ByteArray.toList_eq, ByteArray.toList_eq, rest_list, hi]; simp
        have hsn : (Lib.itoa v == ((t.extract k t.size).extract 0 q).toList) = true := by
          rw [ByteArray.toList_eq, rest_list, hi]; simp
        clear HnO ha hx hxs hi hG
        go_enter Tryd.func24, Tryd.ntmps24
        go_wp2
        go_region
        go_wp2_with (go_at_call 34; refine (HR _).out.mono ?_; rintro e w' ⟨rfl, rfl⟩)
        refine HA.out.mono ?_
        rintro e w1 ⟨rfl, tt, rfl⟩
        have hB1 := Lib.bytesWorld_below w.drew 5 tt
        obtain ⟨w1, hw1⟩ : ∃ w1, w1 = Lib.bytesWorld w.drew 5 tt := ⟨_, rfl⟩
        rw [← hw1] at hB1 ⊢
        have HG1 := Lib.hid (HG0.out.below (Nat.le_refl _) hB1)
        have hR1 := Lib.hid (Blk.below hBd hB1 hBd.lt)
        have hg1 : Hid (w.grownBy w1 (some B)) := Lib.hid (let h := grown_of_below' hB1 (some B); ⟨h.os, h.tape, h.output, h.size, h.block⟩)
        clear hB1 HA hw1
        go_wp2
        go_region_held3 (fun _ => True) (exact trivial) (first | (go_at_call 39; (with_reducible refine (HIt.out _ (HG1.out.below (Nat.le_refl _) (Below.refl _ _).drew)).mono ?_); rintro e w' ⟨rfl, hB2⟩))
        all_goals
          have hB2 : Below w1.heap.size w1 w' := ⟨hB2.os, hB2.tape, hB2.output, hB2.size, hB2.block⟩
          have hR2 := Blk.below hR1.out hB2 hR1.out.lt
          have hS2 := Lib.hid (hR2.set 1 (.int .i64 ((k : Int) + q)))
          have hg2 := Lib.hid (grown_set (hg1.out.andThen (grown_of_below' hB2 (some B)) (fun j e => .inr e)) 1 (.int .i64 ((k : Int) + q)))
          have e1 : w'.cell? ⟨B, 1, none⟩ = some (.int .i64 (k : Int)) := hR2.cell 1
          have fz := hR2.frozen 1
          have hlt2 := hR2.lt
          clear hB2 hR2
          go_wp2
          go_ret
          exact ⟨hg2.out, rfl, hS2.out⟩
      · have HO : Hid (numO (t.data.toList.drop k) = none) := Lib.hid (by rw [HnO.out, if_pos h9, ha]; simp only; rw [if_neg hi])
        have HQ : Hid (NumP B t k q w (numO (t.data.toList.drop k)) = NumP B t k q w none) := Lib.hid (by rw [HO.out])
        rw [HQ.out]
        have hse : ((⟨(Lib.itoa v).toArray⟩ : ByteArray).toList == ((t.extract k t.size).extract 0 q).toList) = false := by
          rw [ByteArray.toList_eq, ByteArray.toList_eq, rest_list]; simpa using hi
        have hsn : (Lib.itoa v == ((t.extract k t.size).extract 0 q).toList) = false := by
          rw [ByteArray.toList_eq, rest_list]; simpa using hi
        clear HnO ha hx hxs hi hG
        go_enter Tryd.func24, Tryd.ntmps24
        go_wp2
        go_region
        go_wp2_with (go_at_call 34; refine (HR _).out.mono ?_; rintro e w' ⟨rfl, rfl⟩)
        refine HA.out.mono ?_
        rintro e w1 ⟨rfl, tt, rfl⟩
        have hB1 := Lib.bytesWorld_below w.drew 5 tt
        obtain ⟨w1, hw1⟩ : ∃ w1, w1 = Lib.bytesWorld w.drew 5 tt := ⟨_, rfl⟩
        rw [← hw1] at hB1 ⊢
        have HG1 := Lib.hid (HG0.out.below (Nat.le_refl _) hB1)
        have hR1 := Lib.hid (Blk.below hBd hB1 hBd.lt)
        have hg1 : Hid (w.grownBy w1 (some B)) := Lib.hid (let h := grown_of_below' hB1 (some B); ⟨h.os, h.tape, h.output, h.size, h.block⟩)
        clear hB1 HA hw1
        go_wp2
        go_region_held3 (fun _ => True) (exact trivial) (first | (go_at_call 39; (with_reducible refine (HIt.out _ (HG1.out.below (Nat.le_refl _) (Below.refl _ _).drew)).mono ?_); rintro e w' ⟨rfl, hB2⟩))
        all_goals
          have hB2 : Below w1.heap.size w1 w' := ⟨hB2.os, hB2.tape, hB2.output, hB2.size, hB2.block⟩
          have hR2 := Lib.hid (Blk.below hR1.out hB2 hR1.out.lt)
          have hg2 := Lib.hid (hg1.out.andThen (grown_of_below' hB2 (some B)) (fun j e => .inr e))
          clear hB2
          go_wp2_with (go_at_call 29; refine (giveUp_any _ _).mono ?_; rintro e w' ⟨rfl, rfl⟩)
          exact ⟨rfl, hg2.out, rfl, hR2.out⟩
  · have d9 : (9 : Int) < (q : Int) := by omega
    have HQ : Hid (NumP B t k q w (numO (t.data.toList.drop k)) = NumP B t k q w none) := Lib.hid (by rw [HnO.out, if_neg h9])
    rw [HQ.out]
    clear HnO Hrx hxs hG
    go_enter Tryd.func24, Tryd.ntmps24
    go_wp2
    go_region
    go_wp2_with (first | (go_at_call 34; refine (HR _).out.mono ?_; rintro e w' ⟨rfl, rfl⟩) | (go_at_call 29; refine (giveUp_any _ _).mono ?_; rintro e w' ⟨rfl, rfl⟩))
    exact ⟨rfl, grown_drew (grown_of_below' (Below.refl _ _) _), rfl, hBd⟩
end Go.Proofs.YtdodkbpagbblmaaDoor
