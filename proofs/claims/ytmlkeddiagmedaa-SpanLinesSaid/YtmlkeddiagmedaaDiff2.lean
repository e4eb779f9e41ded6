import Derived.Test.YtmlkeddiagmedaaDiff
import Derived.Test.YtmlkeddiagmedaaBlk
namespace Go.Proofs.Ytmlkeddiagmedaa
open Go.RowKit

set_option maxHeartbeats 400000 in
theorem sclone_any (s : ByteArray) (w : World) (h : s.size ≤ 281474976710656) : Calls Try.prog 27 #[.string s] w fun e w' => e = .returned (.string s) ∧ Below w.heap.size w w' := by
  have HC := Lib.hid (Try.stringslite_Clone s w h)
  go_enter Try.func27, Try.ntmps27
  go_wp2_with (go_at_call 49; refine HC.out.mono ?_; rintro e w' ⟨rfl, hB⟩)
  go_ret
  exact ⟨rfl, hB⟩

theorem drop_extract (s : ByteArray) (c : Nat) (_hc : c ≤ s.size) : (s.extract c s.size).data.toList = s.data.toList.drop c := by
  rw [ByteArray.data_extract, Array.toList_extract, List.extract_eq_take_drop, List.take_of_length_le]
  simp

def diffPost (a b : ByteArray) (w : World) (e : Ending) (w' : World) : Prop :=
  Below w.heap.size w w' ∧ ((a = b ∧ e = .returned (.tuple #[.agg #[.int .i64 0, .int .i64 0, .string ⟨#[]⟩], .bool false])) ∨
    (a ≠ b ∧ ∃ k m : Nat, IsCB a.data.toList b.data.toList k ∧ IsCE (a.data.toList.drop k) (b.data.toList.drop k) m ∧
      e = .returned (.tuple #[.agg #[.int .i64 k, .int .i64 ((a.size : Int) - m), .string (b.extract k (b.size - m))], .bool true])))

theorem below_drewN {B : Nat} {a w : World} (h : Below B a w) (n : Nat) : Below B a (w.drewN n) := h.trans ⟨rfl, rfl, rfl, Nat.le_refl _, fun _ _ => rfl⟩

set_option maxHeartbeats 1000000 in
theorem diff_any (a b : ByteArray) (w : World) (ha : a.size ≤ 140737488351232) (hb : b.size ≤ 140737488351232) :
    Calls Try.prog 20 #[.string a, .string b] w (diffPost a b w) := by
  by_cases hab : a = b
  · subst hab
    go_enter Try.func20, Try.ntmps20
    go_wp2
    refine bodyPost_ret (v := .tuple #[.agg #[.int .i64 0, .int .i64 0, .string ⟨#[]⟩], .bool false]) (by simp [results, Try.results20, go_sem]) rfl ⟨?_, .inl ⟨rfl, rfl⟩⟩
    exact (Below.refl _ _).alloc (Nat.le_refl _) _
  · have hq : (a.toList == b.toList) = false := by
      rw [beq_eq_false_iff_ne, ByteArray.toList_eq, ByteArray.toList_eq]
      exact fun h => hab (ByteArray.ext (Array.toList_inj.mp h))
    have HB := Lib.hid (fun W => commonBegin_any a b W ha)
    have hab' := Lib.hid hab
    clear hab
    go_enter Try.func20, Try.ntmps20
    go_wp2_with fail
    refine (HB.out _).mono ?_
    rintro e w1 ⟨⟨n, rfl⟩, k, hk, rfl⟩
    have k1 : k ≤ a.size := by simpa using hk.1
    have k2 : k ≤ b.size := by simpa using hk.2.1
    have j0 : (0 : Int) ≤ (k : Int) := Int.natCast_nonneg _
    have j1 : (k : Int) ≤ (a.size : Int) := by omega
    have j2 : (k : Int) ≤ (b.size : Int) := by omega
    have HK := Lib.hid hk
    clear hk HB
    have HE := Lib.hid (fun W => commonEnd_any (a.extract k a.size) (b.extract k b.size) W (by rw [ByteArray.size_extract]; omega) (by rw [ByteArray.size_extract]; omega))
    go_wp2
    go_region_with (go_at_call 38; refine (HE.out _).mono ?_; rintro e w2 ⟨⟨n2, rfl⟩, m, hm, rfl⟩)
    have m1 := hm.1
    have m2 := hm.2.1
    rw [drop_extract a k k1] at hm m1
    rw [drop_extract b k k2] at hm m2
    rw [List.length_drop] at m1 m2
    have ea : a.data.toList.length = a.size := by simp
    have eb : b.data.toList.length = b.size := by simp
    rw [ea] at m1
    rw [eb] at m2
    have m3 : (k : Int) + (m : Int) ≤ (a.size : Int) := by omega
    have m4 : (k : Int) + (m : Int) ≤ (b.size : Int) := by omega
    obtain ⟨T, hT⟩ : ∃ T : Nat, T = b.size - m := ⟨_, rfl⟩
    have q1 : IntKind.i64.wrap ((b.size : Int) - (m : Int)) = (T : Int) := by rw [IntWalk.i64_in _ (by omega)]; omega
    have t1 : (k : Int) ≤ (T : Int) := by omega
    have t2 : (T : Int) ≤ (b.size : Int) := by omega
    have t3 : (b.size : Int) - (m : Int) = (T : Int) := by omega
    have HT := Lib.hid hT
    have HM := Lib.hid hm
    clear hT hm ea eb HE
    have HC := Lib.hid (fun W => sclone_any (b.extract k T) W (by rw [ByteArray.size_extract]; omega))
    go_wp2_with fail
    refine (HC.out _).mono ?_
    rintro e w3 ⟨rfl, hB3⟩
    have h0 : Below w.heap.size w (w.alloc (.cells #[.int .i64 0, .int .i64 0, .string ⟨#[]⟩] 42)) := (Below.refl _ _).alloc (Nat.le_refl _) _
    have hle : w.heap.size + 1 ≤ w3.heap.size := by
      have := hB3.size
      have e0 : (w.alloc (.cells #[.int .i64 0, .int .i64 0, .string ⟨#[]⟩] 42)).heap.size = w.heap.size + 1 := by simp
      rw [← e0]
      exact this
    have hbk := Blk.below (Blk.new w 42 #[.int .i64 0, .int .i64 0, .string ⟨#[]⟩]) (W' := w3) (n := w.heap.size + 1) ⟨hB3.os, hB3.tape, hB3.output, hB3.size, fun k hk => hB3.block k (by show k < (w.alloc _).heap.size; simpa using hk)⟩ (by omega)
    have hB4 : Below w.heap.size w w3 := h0.trans ⟨hB3.os, hB3.tape, hB3.output, hB3.size, fun k hk => hB3.block k (by show k < (w.alloc _).heap.size; simp; omega)⟩
    have c0 : w3.cell? ⟨w.heap.size, 0, none⟩ = some (.int .i64 0) := hbk.cell 0
    have c1 : w3.cell? ⟨w.heap.size, 1, none⟩ = some (.int .i64 0) := hbk.cell 1
    have c2 : w3.cell? ⟨w.heap.size, 2, none⟩ = some (.string ⟨#[]⟩) := hbk.cell 2
    have f0 := hbk.frozen 0
    have f1 := hbk.frozen 1
    have f2 := hbk.frozen 2
    have HBK := Lib.hid hbk
    have HB4 := Lib.hid hB4
    clear hB3 h0 hbk hB4 HC
    go_wp2
    have hb1 := HBK.out.set 0 (.int .i64 k)
    have hb2 := hb1.set 1 (.int .i64 ((a.size : Int) - m))
    have hb3 := hb2.set 2 (.string (b.extract k T))
    have d0 : (w3.setCell ⟨w.heap.size, 0, none⟩ (.int .i64 k)).cell? ⟨w.heap.size, 0, none⟩ = some (.int .i64 k) := hb1.cell 0
    have d1 : ((w3.setCell ⟨w.heap.size, 0, none⟩ (.int .i64 k)).setCell ⟨w.heap.size, 1, none⟩ (.int .i64 ((a.size : Int) - m))).cell? ⟨w.heap.size, 1, none⟩ = some (.int .i64 ((a.size : Int) - m)) := hb2.cell 1
    have d2 : (((w3.setCell ⟨w.heap.size, 0, none⟩ (.int .i64 k)).setCell ⟨w.heap.size, 1, none⟩ (.int .i64 ((a.size : Int) - m))).setCell ⟨w.heap.size, 2, none⟩ (.string (b.extract k T))).cell? ⟨w.heap.size, 2, none⟩ = some (.string (b.extract k T)) := hb3.cell 2
    refine bodyPost_ret (v := .tuple #[.agg #[.int .i64 k, .int .i64 ((a.size : Int) - m), .string (b.extract k T)], .bool true]) (by simp [results, Try.results20, go_sem, d0, d1, d2]) rfl ⟨?_, .inr ⟨hab'.out, k, m, HK.out, HM.out, by rw [HT.out]⟩⟩
    exact ((HB4.out.setCell (p := ⟨w.heap.size, 0, none⟩) (Nat.le_refl _) _).setCell (p := ⟨w.heap.size, 1, none⟩) (Nat.le_refl _) _).setCell (p := ⟨w.heap.size, 2, none⟩) (Nat.le_refl _) _

end Go.Proofs.Ytmlkeddiagmedaa
