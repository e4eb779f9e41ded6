import Derived.Test.YtdodkbpagbblmaaDoorQ5
namespace Go.Proofs.YtdodkbpagbblmaaDoor
open Go Go.RowKit

theorem rest_list (t : ByteArray) (k n : Nat) : ((t.extract k t.size).extract 0 n).data.toList = (t.data.toList.drop k).take n := by
  rw [ByteArray.data_extract, Array.toList_extract, List.extract_eq_take_drop, List.drop_zero, Nat.sub_zero, extract_drop]

set_option maxRecDepth 100000 in
set_option maxHeartbeats 8000000 in
/-- A name is read, or given up. -/
theorem readName_any (B : Nat) (t : ByteArray) (k : Nat) (ht : t.size ≤ 1048576) (hk : k ≤ t.size) (w : World) (hB : Rdr w B t k) (v : Bool) (hv : nameB ((t.data.toList.drop k).take (runL (t.data.toList.drop k))) = v) :
    Calls Tryd.prog 22 #[.pointer (some ⟨B, 0, none⟩)] w fun e w' => w.grownBy w' (some B) ∧ (if v then e = .returned (.string (cutS t k (runL (t.data.toList.drop k)))) ∧ Rdr w' B t (k + runL (t.data.toList.drop k)) else e = .panicked gone ∧ Rdr w' B t k) := by
  have c0 : w.cell? ⟨B, 0, none⟩ = some (.string t) := hB.cell 0
  have c1 : w.cell? ⟨B, 1, none⟩ = some (.int .i64 (k : Int)) := hB.cell 1
  have n2 : (0 : Int) ≤ (k : Int) := by omega
  have n3 : (k : Int) ≤ (t.size : Int) := by omega
  have hsz : (t.extract k t.size).size = t.size - k := by rw [ByteArray.size_extract]; omega
  have hls : (t.extract k t.size).data.toList = t.data.toList.drop k := extract_drop t k
  have hrl := runL_le (t.data.toList.drop k)
  rw [drop_len] at hrl
  have HR := runLength_any (t.extract k t.size) (by omega)
  rw [hls] at HR
  have HN := name_any ((t.extract k t.size).extract 0 (runL (t.data.toList.drop k))) (by rw [ByteArray.size_extract]; omega)
  rw [rest_list, hv] at HN
  have HT := fun w' (h : Rdr w' B t k) => take_any B t k (runL (t.data.toList.drop k)) ht (by omega) w' h
  obtain ⟨q, hq⟩ : ∃ q, q = runL (t.data.toList.drop k) := ⟨_, rfl⟩
  rw [← hq] at hrl HR HN HT ⊢
  have HR := fun w' => Lib.hid (HR w')
  have HN := fun w' => Lib.hid (HN w')
  have HT := Lib.hid HT
  have HB := Lib.hid hB
  have n4 : (q : Int) ≤ ((t.size - k : Nat) : Int) := by omega
  have n5 : (0 : Int) ≤ (q : Int) := by omega
  clear hq hls hv hB
  cases v with
  | true =>
    simp only [if_true]
    go_enter Tryd.func22, Tryd.ntmps22
    go_wp2
    go_region
    go_wp2_with (first | (go_at_call 34; refine (HR _).out.mono ?_; rintro e w' ⟨rfl, rfl⟩) | (go_at_call 18; refine (HN _).out.mono ?_; rintro e w' ⟨rfl, rfl⟩))
    have HB2 : Rdr w.drew B t k := HB.out
    refine (HT.out w.drew HB2).mono ?_
    rintro e w1 ⟨rfl, hg, hR⟩
    have HG : Hid (w.grownBy w1 (some B)) := Lib.hid ⟨hg.os, hg.tape, hg.output, hg.size, hg.block⟩
    have HR1 := Lib.hid hR
    clear hg hR HT
    go_wp2
    go_ret
    exact ⟨HG.out, rfl, HR1.out⟩
  | false =>
    simp only [Bool.false_eq_true, if_false]
    go_enter Tryd.func22, Tryd.ntmps22
    go_wp2
    go_region
    go_wp2_with (first | (go_at_call 34; refine (HR _).out.mono ?_; rintro e w' ⟨rfl, rfl⟩) | (go_at_call 18; refine (HN _).out.mono ?_; rintro e w' ⟨rfl, rfl⟩) | (go_at_call 29; refine (giveUp_any _ _).mono ?_; rintro e w' ⟨rfl, rfl⟩))
    have HB2 : Rdr w.drew B t k := HB.out
    exact ⟨rfl, grown_drew (grown_of_below' (Below.refl _ _) _), rfl, HB2⟩
end Go.Proofs.YtdodkbpagbblmaaDoor
