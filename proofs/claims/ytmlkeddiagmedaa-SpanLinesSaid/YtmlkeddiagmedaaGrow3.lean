import Derived.Test.YtmlkeddiagmedaaGrow2
namespace Go.Proofs.Ytmlkeddiagmedaa
open Go.RowKit

set_option maxHeartbeats 1000000 in
set_option maxRecDepth 100000 in
theorem rest_any (B b : Nat) (p : Value) (hp : p = .pointer none ∨ p = selfP b) (l : List UInt8) (old : ByteArray) (done : Nat) (w : World) (h : GrowAt B b p l old done w) (hd : done ≤ old.size) (hl : l.length ≤ 1073741824) (ho : old.size ≤ 1048576) (hBw : B ≤ w.heap.size) :
    Calls Try.prog 33 #[.pointer (some ⟨b, 0, none⟩)] w fun e w' => e = .returned (.string ⟨(l ++ old.data.toList.drop done).toArray⟩) ∧ Below B w w' := by
  obtain ⟨hBb, v, hb, _⟩ := id h
  have c2 : w.cell? ⟨b, 2, none⟩ = some (.string old) := hb.cell 2
  have c3 : w.cell? ⟨b, 3, none⟩ = some (.int .i64 done) := hb.cell 3
  have e2 : (old.extract done old.size).data.toList = old.data.toList.drop done := by
    rw [ByteArray.data_extract, Array.toList_extract, List.extract_eq_take_drop, List.take_of_length_le (by simp)]
  have hW := write_any B b p hp l old done (old.extract done old.size) w.drew h (by rw [ByteArray.size_extract]; omega) hBw
  rw [e2] at hW
  obtain ⟨L, hL⟩ : ∃ L, L = l ++ old.data.toList.drop done := ⟨_, rfl⟩
  rw [← hL] at hW ⊢
  have HW := Lib.hid hW
  clear hW h hb e2 hL
  go_enter Try.func33, Try.ntmps33
  go_wp2
  go_region_with (go_at_call 42; refine HW.out.mono ?_; rintro e w1 ⟨rfl, hg1, hB1, _⟩)
  all_goals
    have hS := Lib.hid (string_any B b _ _ _ _ _ hg1)
    go_wp2_with (go_at_call 44; refine hS.out.mono ?_; rintro e w2 ⟨rfl, hB2⟩)
    go_ret
    exact ⟨rfl, ((Below.refl B w).drew.trans hB1).trans hB2⟩

theorem GrowAt.cells {B b n : Nat} {p : Value} {l : List UInt8} {old : ByteArray} {done f u : Int} {t : ByteArray} {w : World} (h : GrowAt B b p l old done w) (hE : Blk w n 42 #[.int .i64 f, .int .i64 u, .string t]) :
    w.cell? ⟨b, 2, none⟩ = some (.string old) ∧ w.cell? ⟨b, 3, none⟩ = some (.int .i64 done) ∧ w.cell? ⟨n, 0, none⟩ = some (.int .i64 f) := by
  obtain ⟨_, v, hb, _⟩ := h
  exact ⟨hb.cell 2, hb.cell 3, hE.cell 0⟩

set_option maxHeartbeats 1000000 in
set_option maxRecDepth 100000 in
theorem replace_any (B b : Nat) (p : Value) (hp : p = .pointer none ∨ p = selfP b) (l : List UInt8) (old : ByteArray) (done : Nat) (f u : Nat) (t : ByteArray) (w : World) (h : GrowAt B b p l old done w) (hd : done ≤ f) (hf : f ≤ u) (hu : u ≤ old.size) (hl : l.length ≤ 1073741824) (ho : old.size ≤ 1048576) (ht : t.size ≤ 1073741824) (hBw : B ≤ w.heap.size) :
    Calls Try.prog 32 #[.pointer (some ⟨b, 0, none⟩), .agg #[.int .i64 f, .int .i64 u, .string t]] w fun e w' => e = .returned (.tuple #[]) ∧ GrowAt B b (selfP b) (l ++ (old.data.toList.take f).drop done ++ t.data.toList) old u w' ∧ Below B w w' := by
  obtain ⟨hBb, v, hb, hrest⟩ := id h
  have hbl := hb.lt
  have c2 : w.cell? ⟨b, 2, none⟩ = some (.string old) := hb.cell 2
  have c3 : w.cell? ⟨b, 3, none⟩ = some (.int .i64 done) := hb.cell 3
  have e2 : (old.extract done f).data.toList = (old.data.toList.take f).drop done := by
    rw [ByteArray.data_extract, Array.toList_extract, List.extract_eq_take_drop, List.drop_take]
  have hbA : GrowAt B b p l old done ((w.alloc (.cells #[.int .i64 f, .int .i64 u, .string t] 42)).drew) :=
    ⟨hBb, v, (hb.alloc _).drew, hrest.1.alloc _, hrest.2.1, hrest.2.2⟩
  have hW := write_any B b p hp l old done (old.extract done f) _ hbA (by rw [ByteArray.size_extract]; omega) (by show B ≤ (w.alloc _).heap.size; simp; omega)
  rw [e2] at hW
  obtain ⟨L, hL⟩ : ∃ L, L = l ++ (old.data.toList.take f).drop done := ⟨_, rfl⟩
  rw [← hL] at hW ⊢
  have hLl : L.length ≤ 2147483648 := by rw [hL]; simp; omega
  have HW := Lib.hid hW
  clear hW h hb e2 hL hbA hrest
  go_enter Try.func32, Try.ntmps32
  go_wp2
  have bE : Blk ((w.alloc (.cells #[.int .i64 f, .int .i64 u, .string t] 42)).drew) w.heap.size 42 #[.int .i64 f, .int .i64 u, .string t] := Blk.new w 42 _
  have HE := Lib.hid bE
  clear bE
  have i0 : (0 : Int) ≤ (done : Int) := Int.natCast_nonneg _
  have i1 : (done : Int) ≤ (f : Int) := by omega
  have i2 : (f : Int) ≤ (old.size : Int) := by omega
  go_region_held3 (fun w' => w'.cell? ⟨b, 2, none⟩ = some (.string old) ∧ w'.cell? ⟨b, 3, none⟩ = some (.int .i64 done) ∧ w'.cell? ⟨w.heap.size, 0, none⟩ = some (.int .i64 f)) (first | exact GrowAt.cells ‹_› ‹_› | go_keep)
    (first | (go_at_call 42; refine HW.out.mono ?_; rintro e w1 ⟨rfl, hg1, hB1, hK1⟩; have bE1 := hK1 _ _ _ (by omega) (by decide) HE.out))
  go_wp2
  have t2 : w1.cell? ⟨w.heap.size, 2, none⟩ = some (.string t) := bE1.cell 2
  have hB1s := hB1.size
  have hB1' : w.heap.size + 1 ≤ w1.heap.size := by
    have : (w.alloc (.cells #[.int .i64 f, .int .i64 u, .string t] 42)).drew.heap.size = w.heap.size + 1 := by
      show (w.alloc _).heap.size = _
      simp
    omega
  have hW2 := Lib.hid (write_any B b _ (.inr rfl) L old done t w1.drew hg1 (by omega) (by show B ≤ w1.heap.size; omega))
  have HB1 := Lib.hid hB1
  have HE1 := Lib.hid bE1
  clear hB1 hB1s hK1 hg1 bE1 HE HW
  go_region_with (go_at_call 42; refine hW2.out.mono ?_; rintro e w2 ⟨rfl, hg2, hB2, hK2⟩)
  obtain ⟨_, v2, hb2, hrest⟩ := id hg2
  have bE2 := hK2 _ _ _ (by omega) (by decide) (show Blk w1.drew _ _ _ from HE1.out)
  have u2 : w2.cell? ⟨w.heap.size, 1, none⟩ = some (.int .i64 u) := bE2.cell 1
  have d3 : w2.cell? ⟨b, 3, none⟩ = some (.int .i64 done) := hb2.cell 3
  have f3 : w2.frozen? ⟨b, 3, none⟩ = false := hb2.frozen 3
  have HB2 := Lib.hid hB2
  have HG2 := Lib.hid hb2
  have HR2 := Lib.hid hrest
  clear hB2 hK2 hg2 hb2 hrest bE2 HE1 hW2
  go_wp2
  go_end0
  have hb3 := HG2.out.set 3 (.int .i64 u)
  have hBB : Below B w w1 := ((Below.refl B w).alloc hBw _).drew.trans HB1.out
  refine ⟨rfl, ⟨hBb, v2, hb3, ownsRow_other HR2.out.1 HR2.out.2.1 3 _, HR2.out.2.1, HR2.out.2.2⟩, (hBB.drew.trans HB2.out).setCell (p := ⟨b, 3, none⟩) hBb _⟩

end Go.Proofs.Ytmlkeddiagmedaa
