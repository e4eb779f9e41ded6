import Derived.Lib.Bytealg
import Derived.LaidEqlPtr
import Derived.RangeFuncBox
import Derived.Lib.TrailingZeros
import Derived.Laws.Bits64b
import Derived.Shelf.Abstract
import Derived.Shelf.RegionOpen
import Derived.OwnWalkIn
import Derived.TacticsInMore
import Derived.LoopNIn
import Derived.LoopIn
import Derived.Test.YtodnlcbnbkkanaaGreatDoorO1
import Derived.Test.YtodnlcbnbkkanaaGreatDoorO5
section
namespace Go.Proofs.YtodnlcbnbkkanaaGreatDoor
open Go Go.RowKit

set_option maxRecDepth 100000 in
set_option maxHeartbeats 1000000 in
theorem cmpstr_any (s t : ByteArray) (w : World) : Calls Tryz.prog 170 #[.string s, .string t] w fun e w' => e = .returned (.int .i64 (Lib.compareBytes s.data.toList t.data.toList)) ∧ w = w' := by
  go_enter Tryz.func170, Tryz.ntmps170
  go_wp2_with fail
  rw [run_callFunc_extern Tryz.func175 (by kernel_rfl) (by kernel_rfl) (by kernel_rfl) (e := Extern.BytealgCompare.compare) (by kernel_rfl)]
  rw [Lib.run_compareString]
  simp only [Result.andThen]
  rw [Oper.upon_value]
  go_wp2
  go_ret
  exact ⟨rfl, rfl⟩
set_option maxRecDepth 100000 in
set_option maxHeartbeats 1000000 in
theorem strcmp_any (s t : ByteArray) (w : World) : Calls Tryz.prog 157 #[.string s, .string t] w fun e w' => e = .returned (.int .i64 (Lib.compareBytes s.data.toList t.data.toList)) ∧ w = w' := by
  have HC := fun w => Lib.hid (cmpstr_any s t w)
  generalize Lib.compareBytes s.data.toList t.data.toList = c at *
  go_enter Tryz.func157, Tryz.ntmps157
  go_wp2_with fail
  refine (HC _).out.mono ?_
  rintro e w3 ⟨rfl, rfl⟩
  go_wp2
  go_ret
  exact ⟨rfl, rfl⟩

set_option maxRecDepth 100000 in
set_option maxHeartbeats 2000000 in
theorem next_nil (R : Nat) (a : Option Addr) (c : Nat) (w : World) (hr : Blk w R 162 #[.slice a 0 c]) :
    Calls Tryz.prog 116 #[.pointer (some ⟨R, 0, none⟩)] w fun e w' => e = .returned (.string ⟨#[]⟩) ∧ Below w.heap.size w w' := by
  have c0 := hr.cell 0
  have l0 := hr.lt
  clear hr
  have HB : Hid (Below w.heap.size w (w.alloc (.cells #[.pointer (some ⟨R, 0, none⟩)] 190))) := Lib.hid ((Below.refl _ _).alloc (Nat.le_refl _) _)
  go_enter Tryz.func116, Tryz.ntmps116
  go_wp2
  go_loopw [3] (fun _ wr => Hid (wr = w.alloc (.cells #[.pointer (some ⟨R, 0, none⟩)] 190))) (fun _ _ => 0)
  case atStart => exact Lib.hid rfl
  case round =>
    have e := hrel.out
    subst e
    go_wp2
    go_ret
    exact ⟨rfl, HB.out⟩
set_option maxRecDepth 100000 in
set_option maxHeartbeats 4000000 in
theorem next_one (R S c b : Nat) (t : List UInt8) (w : World) (hr : Blk w R 162 #[.slice (some ⟨S, 0, none⟩) 1 c]) (hs : w.cell? ⟨S, 0, none⟩ = some (.pointer (some ⟨b, 0, none⟩))) (hb : Leaf w b t) :
    Calls Tryz.prog 116 #[.pointer (some ⟨R, 0, none⟩)] w fun e w' => e = .returned (.string (bs t)) ∧ Blk w' R 162 #[.slice (some ⟨S, 0, none⟩) 0 c] ∧ w.grownBy w' (some R) := by
  have c0 := hr.cell 0
  have l0 := hr.lt
  have lS := lt_of_cell hs
  have lb := Blk.lt hb
  have b1 := Blk.cell hb 1
  have b2 := Blk.cell hb 2
  have hne : b ≠ R := fun e => by
    subst e
    have h1 : w.heap[b]? = some (.cells _ 192 (0, 0)) := hb
    have h2 : w.heap[b]? = some (.cells _ 162 (0, 0)) := hr
    rw [h1] at h2
    cases h2
  have HRe := Lib.hid hr
  have HLf := Lib.hid hb
  obtain ⟨s, hs'⟩ : ∃ s, s = bs t := ⟨_, rfl⟩
  rw [← hs'] at b1 ⊢
  have HSe := Lib.hid hs'
  have f0 := hr.frozen 0
  clear hr hb hs'
  go_enter Tryz.func116, Tryz.ntmps116
  go_wp2
  go_loopw [3] (fun _ wr => Hid (wr = w.alloc (.cells #[.pointer (some ⟨R, 0, none⟩)] 190))) (fun _ _ => 0)
  case atStart => exact Lib.hid rfl
  case round =>
    have e := hrel.out
    subst e
    go_wp2
    refine wp_region_still_tail 7 (by kernel_rfl) (by kernel_rfl) ?_
    show wpStill _ _ (World.drew (w.alloc (.cells #[.pointer (some ⟨R, 0, none⟩)] 190))) _ _ _
    obtain ⟨W, hW⟩ : ∃ W, W = World.drew (w.alloc (.cells #[.pointer (some ⟨R, 0, none⟩)] 190)) := ⟨_, rfl⟩
    have HW := Lib.hid hW
    rw [← hW]
    have hB1 : Below w.heap.size w W := by rw [hW]; exact ((Below.refl _ _).alloc (Nat.le_refl _) _).drew
    have kB : Blk W w.heap.size 190 #[.pointer (some ⟨R, 0, none⟩)] := by rw [hW]; exact Blk.new w 190 _
    have kR := HRe.out.below hB1 l0
    have HG : Hid (w.grownBy W (some R)) := Lib.hid (grown_of_below hB1 _)
    have d0 := kB.cell 0
    have d1 := kR.cell 0
    have lB := kB.lt
    have lR := kR.lt
    have fR := kR.frozen 0
    have HLW := Lib.hid (Blk.below (show Blk w b 192 _ from HLf.out) hB1 lb)
    have e1 := HLW.out.cell 1
    have e2 := HLW.out.cell 2
    have le := HLW.out.lt
    have HKR := Lib.hid kR
    clear hW hB1 kB kR c0 l0 f0 lS b1 b2 hs
    simp only [List.take_succ_cons, List.take_zero, List.drop_succ_cons, List.drop_zero]
    repeat still_step
    refine wpStill_nil ?_
    show wpList _ _ _ _ _ (World.drew (w.alloc (.cells #[.pointer (some ⟨R, 0, none⟩)] 190)))
    rw [← HW.out]
    clear HW
    have HN : Hid (Blk (W.setCell ⟨R, 0, none⟩ (.slice (some ⟨S, 0, none⟩) 0 c)) R 162 #[.slice (some ⟨S, 0, none⟩) 0 c]) := Lib.hid (by have h := HKR.out.set 0 (.slice (some ⟨S, 0, none⟩) 0 c); exact h)
    have HG2 : Hid (w.grownBy (W.setCell ⟨R, 0, none⟩ (.slice (some ⟨S, 0, none⟩) 0 c)) (some R)) := Lib.hid (grown_trans HG.out (grown_set W R 0 _))
    clear hrel
    go_wp2
    go_ret
    exact ⟨by rw [HSe.out]; rfl, HN.out, HG2.out⟩
theorem GrowAt.below {B b : Nat} {p : Value} {l : List UInt8} {w V : World} (h : GrowAt B b p l w) (hB : Below w.heap.size w V) : GrowAt B b p l V := by
  obtain ⟨h1, v, h2, h3, h4, h5⟩ := h
  exact ⟨h1, v, h2.below hB h2.lt, own_below h3 hB (Nat.le_refl _), h4, h5⟩
set_option maxRecDepth 100000 in
set_option maxHeartbeats 4000000 in
theorem string_leaf (b : Nat) (t : List UInt8) (w : World) (hb : Leaf w b t) (ht : t.length ≤ 1073741824) :
    Calls Tryz.prog 87 #[.pointer (some ⟨b, 0, none⟩)] w fun e w' => e = .returned (.string (bs t)) ∧ Below w.heap.size w w' := by
  have lb := Blk.lt hb
  have e1 := Blk.new w 161 #[.pointer none, .slice none 0 0]
  have e2 := Blk.new (w.alloc (.cells #[.pointer none, .slice none 0 0] 161)) 133 #[.pointer (some ⟨b, 0, none⟩)]
  have e3 := Blk.new ((w.alloc (.cells #[.pointer none, .slice none 0 0] 161)).alloc (.cells #[.pointer (some ⟨b, 0, none⟩)] 133)) 162 #[.slice (some ⟨w.heap.size + 1, 0, none⟩) 1 1]
  simp only [World.size_alloc] at e2 e3
  obtain ⟨W1, hW1⟩ : ∃ W1, W1 = ((w.alloc (.cells #[.pointer none, .slice none 0 0] 161)).alloc (.cells #[.pointer (some ⟨b, 0, none⟩)] 133)).alloc (.cells #[.slice (some ⟨w.heap.size + 1, 0, none⟩) 1 1] 162) := ⟨_, rfl⟩
  have hB1 : Below w.heap.size w W1 := by rw [hW1]; exact (((Below.refl _ w).alloc (Nat.le_refl _) _).alloc (by simp) _).alloc (by simp; omega) _
  have hR : Blk W1 (w.heap.size + 1 + 1) 162 #[.slice (some ⟨w.heap.size + 1, 0, none⟩) 1 1] := by rw [hW1]; exact e3
  have hS : W1.cell? ⟨w.heap.size + 1, 0, none⟩ = some (.pointer (some ⟨b, 0, none⟩)) := by rw [hW1]; exact (e2.alloc _).cell 0
  have hG : GrowAt w.heap.size w.heap.size (.pointer none) [] W1 := ⟨Nat.le_refl _, .slice none 0 0, by rw [hW1]; exact (e1.alloc _).alloc _, ⟨rfl, .inl ⟨rfl, rfl⟩⟩, by simp [Value.ownBlock], by simp⟩
  have HN := Lib.hid (next_one (w.heap.size + 1 + 1) (w.heap.size + 1) 1 b t W1 hR hS (Blk.below hb hB1 lb))
  have HW1 := Lib.hid hW1
  have HG := Lib.hid hG
  have HB1 := Lib.hid hB1
  clear hb e1 e2 e3 hW1 hB1 hR hS hG
  go_enter Tryz.func87, Tryz.ntmps87
  go_upto_region 3 with (fail)
  rw [← HW1.out]
  go_wp2_with fail
  refine HN.out.mono ?_
  rintro e w3 ⟨rfl, hR3, hg3⟩
  have HR3 := Lib.hid hR3
  have HB3 : Hid (Below w.heap.size w w3) := Lib.hid (below_grown HB1.out hg3 (Nat.le_refl _) (by omega))
  have HG3 : Hid (GrowAt w.heap.size w.heap.size (.pointer none) [] w3) := Lib.hid (by
    obtain ⟨h1, v, h2, h3, h4, h5⟩ := HG.out
    exact ⟨h1, v, h2.kept hg3 (by simp; omega), by rw [h5.2 rfl]; exact ⟨rfl, .inl ⟨rfl, rfl⟩⟩, h4, h5⟩)
  clear hR3 hg3 HN HG HB1 HW1
  have hle : t.length ≤ 140737488355328 := by omega
  obtain ⟨s, hs⟩ : ∃ s, s = bs t := ⟨_, rfl⟩
  have HS := Lib.hid hs
  rw [← hs]
  have hsz : s.size = t.length := by rw [hs, bs_size]
  have HSl : Hid (s.data.toList = t) := Lib.hid (by rw [hs, bs_list])
  have hne : t ≠ [] → ¬ s.toList = [] := fun h => by rw [ByteArray.toList_eq, hs, bs_list]; exact h
  have HNe := Lib.hid hne
  have HNil : Hid (t = [] → s = ⟨#[]⟩) := Lib.hid (fun h => by rw [hs, h]; rfl)
  have HSz := Lib.hid hsz
  clear hs hne hsz
  go_wp2
  go_loopg [5] 1 (fun gg v wr => ∃ (k : Nat), k ≤ gg ∧ ((k = 1 ∧ v = .string s ∧ Hid (t ≠ [] ∧ Blk wr (w.heap.size + 1 + 1) 162 #[.slice (some ⟨w.heap.size + 1, 0, none⟩) 0 1] ∧ GrowAt w.heap.size w.heap.size (.pointer none) [] wr ∧ Below w.heap.size w wr)) ∨ (v = .string ⟨#[]⟩ ∧ Hid (∃ p, GrowAt w.heap.size w.heap.size p t wr ∧ Below w.heap.size w wr))))
  case atStart =>
    by_cases h0 : t = []
    · exact ⟨0, by omega, .inr ⟨by rw [HNil.out h0], Lib.hid ⟨_, by rw [h0]; exact HG3.out, HB3.out⟩⟩⟩
    · exact ⟨1, by omega, .inl ⟨rfl, rfl, Lib.hid ⟨h0, HR3.out, HG3.out, HB3.out⟩⟩⟩
  case round =>
    clear HR3 HB3 HG3
    obtain ⟨k, hk, ⟨rfl, rfl, K⟩ | ⟨rfl, K⟩⟩ := hrel
    · have hne := HNe.out K.out.1
      have hne2 : s.toList.isEmpty = false := by simpa using hne
      have HW := Lib.hid (write_any _ _ _ (.inl rfl) [] s wr K.out.2.2.1 (by have := HSz.out; simp; omega) K.out.2.2.2.size)
      have HBr := Lib.hid K.out.2.2.2
      have HRr := Lib.hid K.out.2.1
      clear K
      go_wp2_with fail
      refine HW.out.mono ?_
      rintro e w4 ⟨rfl, hG4, hB4, hK4⟩
      have HR4 := Lib.hid (hK4 _ 162 _ (by omega) (by decide) HRr.out)
      have HG4 : Hid (GrowAt w.heap.size w.heap.size (selfP w.heap.size) t w4) := Lib.hid (by rw [HSl.out, List.nil_append] at hG4; exact hG4)
      have HB4 := Lib.hid (HBr.out.trans hB4)
      clear hB4 hG4 hK4 HW
      have HN := Lib.hid (next_nil (w.heap.size + 1 + 1) _ _ w4 HR4.out)
      go_wp2_with fail
      refine HN.out.mono ?_
      rintro e w5 ⟨rfl, hB5⟩
      have HZ : Hid (∃ p, GrowAt w.heap.size w.heap.size p t w5 ∧ Below w.heap.size w w5) := Lib.hid ⟨_, HG4.out.below hB5, HB4.out.trans (hB5.mono HB4.out.size)⟩
      clear hB5 HN
      go_wp2
      go_roundg 0
      case rel => exact ⟨0, Nat.zero_le _, .inr ⟨rfl, HZ⟩⟩
      case measure => omega
    · obtain ⟨p, hG, hB⟩ := K.out
      have HSt := Lib.hid (bstring_any _ _ _ _ _ hG)
      have HB := Lib.hid hB
      clear hG hB K
      go_wp2_with fail
      refine HSt.out.mono ?_
      rintro e w4 ⟨rfl, hB4⟩
      have HB4 := Lib.hid (HB.out.trans hB4)
      clear hB4 HSt
      go_wp2
      go_ret
      exact ⟨by rw [HS.out]; rfl, HB4.out⟩
end Go.Proofs.YtodnlcbnbkkanaaGreatDoor
end
section
namespace Go.Proofs.YtodnlcbnbkkanaaGreatDoor
open Go Go.RowKit

def cmpT (s t : List UInt8) : Int := if s.length = t.length then Lib.compareBytes s t else cmpI s.length t.length
theorem compareBytes_self (s : List UInt8) : Lib.compareBytes s s = 0 := by
  induction s with
  | nil => rfl
  | cons x r ih => rw [Lib.compareBytes, if_neg (UInt8.lt_irrefl x), if_neg (UInt8.lt_irrefl x), ih]
theorem Leaf.unique {W : World} {b : Nat} {s t : List UInt8} (h : Leaf W b s) (k : Leaf W b t) : s = t := by
  have h1 := Blk.cell h 1
  have h2 := Blk.cell k 1
  rw [h1] at h2
  have h3 : bs s = bs t := by simpa using h2
  rw [← bs_list s, ← bs_list t, h3]

set_option maxRecDepth 100000 in
set_option maxHeartbeats 4000000 in
theorem compare_same (a : Nat) (s : List UInt8) (w : World) (ha : Leaf w a s) : Calls Tryz.prog 137 #[.pointer (some ⟨a, 0, none⟩), .pointer (some ⟨a, 0, none⟩)] w fun e w' => e = .returned (.int .i64 0) ∧ Below w.heap.size w w' := by
  obtain ⟨j, hj, hjs⟩ := Option.map_eq_some_iff.1 (show (Tryz.prog.info? 192).map (·.size) = some 3 by kernel_rfl)
  have hp : ∀ W : World, (binOp .eql 133 (.pointer (some ⟨a, 0, none⟩)) (.pointer (some ⟨a, 0, none⟩))).run Tryz.prog W = .ok (.bool true) W := fun W => run_eql_ptr_same W _ Tryz.underlying133 hj
  have c0 := Blk.cell ha 0
  have lt := Blk.lt ha
  obtain ⟨n, hn⟩ : ∃ n, n = s.length := ⟨_, rfl⟩
  rw [← hn] at c0
  have HC := fun w => Lib.hid (cmp_any n n w)
  have he : cmpI (n : Int) (n : Int) = 0 := by unfold cmpI; rw [if_neg (Int.lt_irrefl _), if_neg (Int.lt_irrefl _)]
  rw [he] at HC
  clear ha hn he hj hjs
  go_enter Tryz.func137, Tryz.ntmps137
  go_wp2
  go_quiet (fail)
  go_wp2
  refine wp_region_still_tail 8 (by kernel_rfl) (by kernel_rfl) ?_
  show wpStill _ _ (World.drew (w.drewN _)) _ _ _
  obtain ⟨W, hW⟩ : ∃ W, W = World.drew (w.drewN nq) := ⟨_, rfl⟩
  have HW := Lib.hid hW
  rw [← hW]
  have hB1 : Below w.heap.size w W := by rw [hW]; exact (below_drewN (Below.refl _ _) _).drew
  have d0 : W.cell? ⟨a, 0, none⟩ = some (.int .i64 n) := (hB1.cell (p := ⟨a, 0, none⟩) lt).trans c0
  have dl : a < W.heap.size := Nat.lt_of_lt_of_le lt hB1.size
  have HB := Lib.hid hB1
  clear hW hB1 c0
  simp only [List.take_succ_cons, List.take_zero, List.drop_succ_cons, List.drop_zero]
  repeat still_step
  refine wpStill_nil ?_
  show wpList _ _ _ _ _ (World.drew (w.drewN _))
  rw [← HW.out]
  clear HW
  go_wp2_with fail
  refine (HC _).out.mono ?_
  rintro e w3 ⟨rfl, rfl⟩
  go_wp2
  go_ret
  exact ⟨rfl, HB.out⟩
set_option maxRecDepth 100000 in
set_option maxHeartbeats 4000000 in
theorem compare_size (a b : Nat) (s t : List UInt8) (w : World) (hab : a ≠ b) (ha : Leaf w a s) (hb : Leaf w b t) (hst : s.length ≠ t.length) : Calls Tryz.prog 137 #[.pointer (some ⟨a, 0, none⟩), .pointer (some ⟨b, 0, none⟩)] w fun e w' => e = .returned (.int .i64 (cmpI s.length t.length)) ∧ Below w.heap.size w w' := by
  obtain ⟨j, hj, hjs⟩ := Option.map_eq_some_iff.1 (show (Tryz.prog.info? 192).map (·.size) = some 3 by kernel_rfl)
  have hp : ∀ n : Nat, (binOp .eql 133 (.pointer (some ⟨a, 0, none⟩)) (.pointer (some ⟨b, 0, none⟩))).run Tryz.prog (w.drewN n) = .ok (.bool false) (w.drewN n) := fun n => run_eql_ptr_other (w.drewN n) (a := ⟨a, 0, none⟩) (b := ⟨b, 0, none⟩) Tryz.underlying133 hj (by rw [hjs]; decide) (by simp [hab]) (Blk.below ha (below_drewN (Below.refl w.heap.size w) n) (Blk.lt ha)) (Blk.below hb (below_drewN (Below.refl w.heap.size w) n) (Blk.lt hb))
  have c0 := Blk.cell ha 0
  have lt := Blk.lt ha
  have k0 := Blk.cell hb 0
  have ltb := Blk.lt hb
  obtain ⟨n, hn⟩ : ∃ n, n = s.length := ⟨_, rfl⟩
  obtain ⟨m, hm⟩ : ∃ n, n = t.length := ⟨_, rfl⟩
  rw [← hn] at c0
  rw [← hm] at k0
  have HC := fun w => Lib.hid (cmp_any n m w)
  rw [← hn, ← hm] at hst ⊢
  have hne : ((n : Int) != (m : Int)) = true := by simp; omega
  have hne2 : ((n : Int) == (m : Int)) = false := by simp; omega
  generalize cmpI (n : Int) (m : Int) = c at *
  clear ha hb hn hm hj hjs hst hab
  go_enter Tryz.func137, Tryz.ntmps137
  go_wp2
  go_quiet (fail)
  go_wp2
  refine wp_region_still_tail 8 (by kernel_rfl) (by kernel_rfl) ?_
  show wpStill _ _ (World.drew (w.drewN _)) _ _ _
  obtain ⟨W, hW⟩ : ∃ W, W = World.drew (w.drewN nq) := ⟨_, rfl⟩
  have HW := Lib.hid hW
  rw [← hW]
  have hB1 : Below w.heap.size w W := by rw [hW]; exact (below_drewN (Below.refl _ _) _).drew
  have d0 : W.cell? ⟨a, 0, none⟩ = some (.int .i64 n) := (hB1.cell (p := ⟨a, 0, none⟩) lt).trans c0
  have d1 : W.cell? ⟨b, 0, none⟩ = some (.int .i64 m) := (hB1.cell (p := ⟨b, 0, none⟩) ltb).trans k0
  have dl : a < W.heap.size := Nat.lt_of_lt_of_le lt hB1.size
  have dl2 : b < W.heap.size := Nat.lt_of_lt_of_le ltb hB1.size
  have HB := Lib.hid hB1
  clear hW hB1 c0 k0 hp
  simp only [List.take_succ_cons, List.take_zero, List.drop_succ_cons, List.drop_zero]
  repeat still_step
  refine wpStill_nil ?_
  show wpList _ _ _ _ _ (World.drew (w.drewN _))
  rw [← HW.out]
  clear HW
  go_wp2_with fail
  refine (HC _).out.mono ?_
  rintro e w3 ⟨rfl, rfl⟩
  go_wp2
  go_ret
  exact ⟨rfl, HB.out⟩
end Go.Proofs.YtodnlcbnbkkanaaGreatDoor
end
section
namespace Go.Proofs.YtodnlcbnbkkanaaGreatDoor
open Go Go.RowKit

theorem ba_whole (s : ByteArray) : s.extract 0 s.size = s := by
  apply ByteArray.ext
  rw [ByteArray.data_extract]
  show s.data.extract 0 s.data.size = s.data
  simp
theorem ba_end (s : ByteArray) : s.extract s.size s.size = ⟨#[]⟩ := by
  apply ByteArray.ext
  rw [ByteArray.data_extract]
  show s.data.extract s.data.size s.data.size = #[]
  simp
theorem cell_kept {W V : World} {q : Option Nat} {b i : Nat} {v : Value} (hg : W.grownBy V q) (h : W.cell? ⟨b, i, none⟩ = some v) (hne : some b ≠ q) : V.cell? ⟨b, i, none⟩ = some v :=
  (World.cell?_of_block (hg.block b (lt_of_cell h) hne)).trans h
def CmpSt (w : World) (a b : Nat) (s t : List UInt8) (R1 R2 : Nat) (k : Nat) (W : World) : Prop :=
  Below w.heap.size w W ∧ R1 ≠ R2 ∧ w.heap.size ≤ R1 ∧ w.heap.size ≤ R2 ∧
  ((k = 1 ∧ ∃ S1 S2 c1 c2, Blk W R1 162 #[.slice (some ⟨S1, 0, none⟩) 1 c1] ∧ Blk W R2 162 #[.slice (some ⟨S2, 0, none⟩) 1 c2] ∧ W.cell? ⟨S1, 0, none⟩ = some (.pointer (some ⟨a, 0, none⟩)) ∧ W.cell? ⟨S2, 0, none⟩ = some (.pointer (some ⟨b, 0, none⟩)) ∧ S2 ≠ R1) ∨
   (k = 0 ∧ Lib.compareBytes s t = 0 ∧ ∃ a1 a2 c1 c2, Blk W R1 162 #[.slice a1 0 c1] ∧ Blk W R2 162 #[.slice a2 0 c2]))

set_option maxRecDepth 100000 in
set_option maxHeartbeats 8000000 in
theorem compare_bytes (a b : Nat) (s t : List UInt8) (w : World) (hab : a ≠ b) (ha : Leaf w a s) (hb : Leaf w b t) (hst : s.length = t.length) (hl : s.length ≤ 1073741824) : Calls Tryz.prog 137 #[.pointer (some ⟨a, 0, none⟩), .pointer (some ⟨b, 0, none⟩)] w fun e w' => e = .returned (.int .i64 (Lib.compareBytes s t)) ∧ Below w.heap.size w w' := by
  obtain ⟨j, hj, hjs⟩ := Option.map_eq_some_iff.1 (show (Tryz.prog.info? 192).map (·.size) = some 3 by kernel_rfl)
  have hp : ∀ n : Nat, (binOp .eql 133 (.pointer (some ⟨a, 0, none⟩)) (.pointer (some ⟨b, 0, none⟩))).run Tryz.prog (w.drewN n) = .ok (.bool false) (w.drewN n) := fun n => run_eql_ptr_other (w.drewN n) (a := ⟨a, 0, none⟩) (b := ⟨b, 0, none⟩) Tryz.underlying133 hj (by rw [hjs]; decide) (by simp [hab]) (Blk.below ha (below_drewN (Below.refl w.heap.size w) n) (Blk.lt ha)) (Blk.below hb (below_drewN (Below.refl w.heap.size w) n) (Blk.lt hb))
  have c0 := Blk.cell ha 0
  have lt := Blk.lt ha
  have k0 := Blk.cell hb 0
  have ltb := Blk.lt hb
  obtain ⟨n, hn⟩ : ∃ n, n = s.length := ⟨_, rfl⟩
  have hm : n = t.length := by rw [hn, hst]
  have HN := Lib.hid hn
  have HM := Lib.hid hm
  rw [← hn] at c0 hl
  rw [← hm] at k0
  have HA := Lib.hid ha
  have HB := Lib.hid hb
  have HSM := fun w => Lib.hid (strcmp_any (bs s) (bs t) w)
  obtain ⟨c, hc⟩ : ∃ c, c = Lib.compareBytes s t := ⟨_, rfl⟩
  simp only [bs_list] at HSM
  rw [← hc] at HSM ⊢
  have HC := Lib.hid hc
  have HBW : Hid ((bs s).extract 0 n = bs s ∧ (bs t).extract 0 n = bs t ∧ (bs s).extract n n = ⟨#[]⟩ ∧ (bs t).extract n n = ⟨#[]⟩ ∧ (bs s).size = n ∧ (bs t).size = n) := Lib.hid (by
    have e1 : (bs s).size = n := by rw [bs_size, hn]
    have e2 : (bs t).size = n := by rw [bs_size, hm]
    refine ⟨?_, ?_, ?_, ?_, e1, e2⟩
    · rw [← e1]; exact ba_whole _
    · rw [← e2]; exact ba_whole _
    · rw [← e1]; exact ba_end _
    · rw [← e2]; exact ba_end _)
  obtain ⟨W1, hW1⟩ : ∃ W1 : Nat → World, W1 = fun nq => ((((w.drewN nq).alloc (.cells #[.pointer (some ⟨a, 0, none⟩)] 133)).alloc (.cells #[.pointer (some ⟨b, 0, none⟩)] 133)).alloc (.cells #[.slice (some ⟨w.heap.size, 0, none⟩) 1 1] 162)).alloc (.cells #[.slice (some ⟨w.heap.size + 1, 0, none⟩) 1 1] 162) := ⟨_, rfl⟩
  have HSt : Hid (∀ nq, CmpSt w a b s t (w.heap.size + 1 + 1) (w.heap.size + 1 + 1 + 1) 1 (W1 nq)) := Lib.hid fun nq => by
    have e1 := Blk.new (w.drewN nq) 133 #[.pointer (some ⟨a, 0, none⟩)]
    have e2 := Blk.new ((w.drewN nq).alloc (.cells #[.pointer (some ⟨a, 0, none⟩)] 133)) 133 #[.pointer (some ⟨b, 0, none⟩)]
    have e3 := Blk.new (((w.drewN nq).alloc (.cells #[.pointer (some ⟨a, 0, none⟩)] 133)).alloc (.cells #[.pointer (some ⟨b, 0, none⟩)] 133)) 162 #[.slice (some ⟨w.heap.size, 0, none⟩) 1 1]
    have e4 := Blk.new ((((w.drewN nq).alloc (.cells #[.pointer (some ⟨a, 0, none⟩)] 133)).alloc (.cells #[.pointer (some ⟨b, 0, none⟩)] 133)).alloc (.cells #[.slice (some ⟨w.heap.size, 0, none⟩) 1 1] 162)) 162 #[.slice (some ⟨w.heap.size + 1, 0, none⟩) 1 1]
    have hs : (w.drewN nq).heap.size = w.heap.size := rfl
    simp only [World.size_alloc, hs] at e1 e2 e3 e4
    rw [hW1]
    refine ⟨((((below_drewN (Below.refl _ w) nq).alloc (Nat.le_refl _) _).alloc (by simp [hs]) _).alloc (by simp [hs]; omega) _).alloc (by simp [hs]; omega) _, by omega, by omega, by omega, .inl ⟨rfl, w.heap.size, w.heap.size + 1, 1, 1, e3.alloc _, e4, (((e1.alloc _).alloc _).alloc _).cell 0, ((e2.alloc _).alloc _).cell 0, by omega⟩⟩
  have HW1 := Lib.hid (congrFun hW1)
  clear ha hb hn hm hj hjs hst hab hc hW1
  go_enter Tryz.func137, Tryz.ntmps137
  go_wp2
  go_quiet (fail)
  go_wp2
  rw [← HW1.out nq]
  have HS0 := Lib.hid (HSt.out nq)
  clear HSt HW1 c0 k0 hp
  go_loopg [5, 6, 7, 8] 1 (fun gg vx vy v7 v8 wr => ∃ (k R1 R2 : Nat), k ≤ gg ∧ vx = .string ⟨#[]⟩ ∧ vy = .string ⟨#[]⟩ ∧ v7 = .pointer (some ⟨R1, 0, none⟩) ∧ v8 = .pointer (some ⟨R2, 0, none⟩) ∧ Hid (CmpSt w a b s t R1 R2 k wr))
  case atStart => exact ⟨1, _, _, Nat.le_refl _, rfl, rfl, rfl, rfl, HS0⟩
  case round =>
    clear HS0
    obtain ⟨k, R1, R2, hk, rfl, rfl, rfl, rfl, K⟩ := hrel
    obtain ⟨hB, hne, hr1, hr2, ⟨rfl, S1, S2, c1, c2, h1, h2, h3, h4, h5⟩ | ⟨rfl, hcb, a1, a2, c1, c2, h1, h2⟩⟩ := K.out
    · have HN1 := Lib.hid (next_one R1 S1 c1 a s wr h1 h3 (Blk.below HA.out hB lt))
      have H2 := Lib.hid (And.intro h2 h4)
      have HBr := Lib.hid hB
      clear hB h1 h2 h3 h4 K
      go_wp2_with fail
      refine HN1.out.mono ?_
      rintro e w4 ⟨rfl, hk1, hg4⟩
      have hB4 : Below w.heap.size w w4 := below_grown HBr.out hg4 (Nat.le_refl _) hr1
      have H24 := Lib.hid (And.intro (H2.out.1.kept hg4 (by simp; omega)) (cell_kept hg4 H2.out.2 (by simp; omega)))
      have HK1 := Lib.hid hk1
      have HN2 := Lib.hid (next_one R2 S2 c2 b t w4 H24.out.1 H24.out.2 (Blk.below HB.out hB4 ltb))
      have HB4 := Lib.hid hB4
      clear hk1 hg4 hB4 H2 H24 HN1 HBr
      go_wp2_with fail
      refine HN2.out.mono ?_
      rintro e w5 ⟨rfl, hk2, hg5⟩
      have HB5 : Hid (Below w.heap.size w w5) := Lib.hid (below_grown HB4.out hg5 (Nat.le_refl _) hr2)
      have HKK : Hid (Blk w5 R1 162 #[.slice (some ⟨S1, 0, none⟩) 0 c1] ∧ Blk w5 R2 162 #[.slice (some ⟨S2, 0, none⟩) 0 c2]) := Lib.hid ⟨HK1.out.kept hg5 (by simp; omega), hk2⟩
      obtain ⟨hb1, hb2, hb3, hb4, hb5, hb6⟩ := HBW.out
      clear hk2 hg5 HK1 HB4 HN2
      by_cases h0 : n = 0
      · have HZ : Hid (c = 0) := Lib.hid (by
          have e1 : s = [] := List.length_eq_zero_iff.1 (by have := HN.out; omega)
          have e2 : t = [] := List.length_eq_zero_iff.1 (by have := HM.out; omega)
          rw [HC.out, e1, e2]; rfl)
        rw [h0] at hb5 hb6
        clear hb1 hb2 hb3 hb4 HKK h0
        go_wp2
        go_ret
        exact ⟨by rw [HZ.out]; rfl, HB5.out⟩
      · have hn0 : ((n : Int) == 0) = false := by simp; omega
        have z1 : (0 : Int) ≤ (n : Int) := by omega
        have H0 := Lib.hid h0
        clear h0
        go_wp2
        refine wp_region_still_tail 6 (by kernel_rfl) (by kernel_rfl) ?_
        show wpStill _ _ (World.drew w5) _ _ _
        obtain ⟨W, hW⟩ : ∃ W, W = World.drew w5 := ⟨_, rfl⟩
        have HW := Lib.hid hW
        rw [← hW]
        have HBW2 : Hid (Below w.heap.size w W) := Lib.hid (by rw [hW]; exact HB5.out.drew)
        have HKW : Hid (Blk W R1 162 #[.slice (some ⟨S1, 0, none⟩) 0 c1] ∧ Blk W R2 162 #[.slice (some ⟨S2, 0, none⟩) 0 c2]) := Lib.hid (by rw [hW]; exact HKK.out)
        clear hW HKK HB5
        simp only [List.take_succ_cons, List.take_zero, List.drop_succ_cons, List.drop_zero]
        repeat still_step
        refine wpStill_nil ?_
        show wpList _ _ _ _ _ (World.drew w5)
        rw [← HW.out]
        clear HW
        go_wp2_with fail
        refine (HSM _).out.mono ?_
        rintro e w6 ⟨rfl, rfl⟩
        have f1 := HKW.out.1.cell 0
        have f2 := HKW.out.2.cell 0
        have g1 := HKW.out.1.lt
        have g2 := HKW.out.2.lt
        by_cases hc0 : c = 0
        · have HZ : Hid (Lib.compareBytes s t = 0) := Lib.hid (by rw [← HC.out, hc0])
          have hc1 : (c == 0) = true := by simpa using hc0
          have hc2 : (c != 0) = false := by simp [hc0]
          have HC0 := Lib.hid hc0
          clear hc0 HSM
          go_wp2
          go_quiet (fail)
          obtain ⟨W2, hW2⟩ : ∃ W2, W2 = W.drewN nq := ⟨_, rfl⟩
          rw [← hW2]
          have HB2 : Hid (Below w.heap.size w W2) := Lib.hid (by rw [hW2]; exact below_drewN HBW2.out _)
          have HK2 : Hid (Blk W2 R1 162 #[.slice (some ⟨S1, 0, none⟩) 0 c1] ∧ Blk W2 R2 162 #[.slice (some ⟨S2, 0, none⟩) 0 c2]) := Lib.hid (by rw [hW2]; exact HKW.out)
          clear hW2 f1 f2 g1 g2
          have f1 := HK2.out.1.cell 0
          have f2 := HK2.out.2.cell 0
          have g1 := HK2.out.1.lt
          have g2 := HK2.out.2.lt
          go_wp2
          go_roundg 0
          case rel => exact ⟨0, W2.heap.size, W2.heap.size + 1, Nat.le_refl _, rfl, rfl, rfl, rfl, Lib.hid (by
            have e1 := Blk.new W2 162 #[.slice (some ⟨S1, 0, none⟩) 0 c1]
            have e2 := Blk.new (W2.alloc (.cells #[.slice (some ⟨S1, 0, none⟩) 0 c1] 162)) 162 #[.slice (some ⟨S2, 0, none⟩) 0 c2]
            simp only [World.size_alloc] at e2
            have hsz := HB2.out.size
            exact ⟨(HB2.out.alloc hsz _).alloc (by simp; omega) _, by omega, hsz, by omega, .inr ⟨rfl, HZ.out, _, _, _, _, e1.alloc _, e2⟩⟩)⟩
          case measure => omega
        · have hc1 : (c == 0) = false := by simpa using hc0
          have hc2 : (c != 0) = true := by simpa using hc0
          clear hc0 HSM
          go_wp2
          go_ret
          exact ⟨rfl, HBW2.out⟩
    · have HN1 := Lib.hid (next_nil R1 a1 c1 wr h1)
      have H2 := Lib.hid h2
      have HBr := Lib.hid hB
      have HZ : Hid (c = 0) := Lib.hid (HC.out.trans hcb)
      clear hB h1 h2 K hcb HSM
      go_wp2_with fail
      refine HN1.out.mono ?_
      rintro e w4 ⟨rfl, hB4⟩
      have HN2 := Lib.hid (next_nil R2 a2 c2 w4 (H2.out.below hB4 H2.out.lt))
      have HB4 := Lib.hid (HBr.out.trans (hB4.mono HBr.out.size))
      clear hB4 HN1 H2
      go_wp2_with fail
      refine HN2.out.mono ?_
      rintro e w5 ⟨rfl, hB5⟩
      have HB5 := Lib.hid (HB4.out.trans (hB5.mono HB4.out.size))
      clear hB5 HN2
      go_wp2
      go_ret
      exact ⟨by rw [HZ.out]; rfl, HB5.out⟩
def CmpOK (lim : Nat) : Prop := ∀ (a b : Nat) (s t : List UInt8) (w : World), TxtAt w a s → TxtAt w b t → s.length ≤ lim → t.length ≤ lim →
  Calls Tryz.prog 137 #[.pointer (some ⟨a, 0, none⟩), .pointer (some ⟨b, 0, none⟩)] w fun e w' => e = .returned (.int .i64 (cmpT s t)) ∧ Below w.heap.size w w'
theorem compare_4096 : CmpOK 4096 := fun a b s t w ha hb hs ht => by
  have ha := ha.leaf hs
  have hb := hb.leaf ht
  by_cases hab : a = b
  · subst hab
    have e := ha.unique hb
    subst e
    unfold cmpT
    rw [if_pos rfl, compareBytes_self]
    exact compare_same a s w ha
  · unfold cmpT
    by_cases hl : s.length = t.length
    · rw [if_pos hl]
      exact compare_bytes a b s t w hab ha hb hl (by omega)
    · rw [if_neg hl]
      exact compare_size a b s t w hab ha hb hl
def StrOK (lim : Nat) : Prop := ∀ (a : Nat) (t : List UInt8) (w : World), TxtAt w a t → t.length ≤ lim → Calls Tryz.prog 87 #[.pointer (some ⟨a, 0, none⟩)] w fun e w' => e = .returned (.string (bs t)) ∧ Below w.heap.size w w'
theorem string_4096 : StrOK 4096 := fun a t w ha ht => string_leaf a t w (ha.leaf ht) (by omega)
end Go.Proofs.YtodnlcbnbkkanaaGreatDoor
end
section
namespace Go.Proofs.YtodnlcbnbkkanaaGreatDoor
open Go Go.RowKit

set_option maxRecDepth 100000 in
set_option maxHeartbeats 1000000 in
theorem whole_ba (s : ByteArray) (w : World) (hl : s.size ≤ 9223372036854775807) :
    Calls Tryz.prog 140 #[.string s] w fun e w' => e = .returned (.pointer (some ⟨w.heap.size, 0, none⟩)) ∧ w' = w.alloc (.cells #[.int .i64 s.size, .string s, .slice none 0 0] 192) := by
  obtain ⟨n, hn⟩ : ∃ n, n = s.size := ⟨_, rfl⟩
  have hs := hn.symm
  rw [← hn] at hl ⊢
  clear hn
  go_enter Tryz.func140, Tryz.ntmps140
  go_wp2
  go_ret
  exact ⟨rfl, rfl⟩
theorem Tryz.info129e : (Tryz.prog.info? 133).map (fun i => (i.zero, i.size, i.bytes)) = some (some (.pointer none), 1, 8) := by kernel_rfl
def LeavesAt (W : World) (a : Option Addr) (ts : List (List UInt8)) : Prop := ∀ (i : Nat) (t : List UInt8), ts[i]? = some t → ∃ g off b, a = some ⟨g, off, none⟩ ∧ g < W.heap.size ∧ W.cell? ⟨g, off + i, none⟩ = some (.pointer (some ⟨b, 0, none⟩)) ∧ Leaf W b t
def JoinSt (w : World) (u : List UInt8) (W : World) : Prop :=
  Below w.heap.size w W ∧
  ((u = [] ∧ Blk W w.heap.size 192 #[.int .i64 0, .string ⟨#[]⟩, .slice none 0 0]) ∨
   (u ≠ [] ∧ ∃ G X cap cs, Blk W w.heap.size 192 #[.int .i64 u.length, .string ⟨#[]⟩, .slice (some ⟨G, 0, none⟩) 1 cap] ∧ Blk W G 133 cs ∧ cs[0]? = some (.pointer (some ⟨X, 0, none⟩)) ∧ Leaf W X u ∧ w.heap.size < G ∧ X ≠ w.heap.size))
def JoinMid (w : World) (u : List UInt8) (m : Int) (W : World) : Prop :=
  Below w.heap.size w W ∧
  ((u = [] ∧ Blk W w.heap.size 192 #[.int .i64 m, .string ⟨#[]⟩, .slice none 0 0]) ∨
   (u ≠ [] ∧ ∃ G X cap cs, Blk W w.heap.size 192 #[.int .i64 m, .string ⟨#[]⟩, .slice (some ⟨G, 0, none⟩) 1 cap] ∧ Blk W G 133 cs ∧ cs[0]? = some (.pointer (some ⟨X, 0, none⟩)) ∧ Leaf W X u ∧ w.heap.size < G ∧ X ≠ w.heap.size))

set_option maxRecDepth 100000 in
set_option maxHeartbeats 8000000 in
theorem join_leaves (a : Option Addr) (c : Nat) (ts : List (List UInt8)) (w : World) (ha : LeavesAt w a ts) (hn : ts.length ≤ 281474976710656) (ht : ts.flatten.length ≤ 4096) :
    Calls Tryz.prog 141 #[.slice a ts.length c] w fun e w' => ∃ b, e = .returned (.pointer (some ⟨b, 0, none⟩)) ∧ Leaf w' b ts.flatten ∧ Below w.heap.size w w' := by
  obtain ⟨i133, ti, tz, tis, tb⟩ := info_parts Tryz.info129e
  have HA := Lib.hid ha
  have HT := Lib.hid ht
  obtain ⟨n, hnn⟩ : ∃ n, n = ts.length := ⟨_, rfl⟩
  have HN := Lib.hid hnn
  rw [← hnn] at hn ⊢
  have HS0 : Hid (JoinSt w [] (w.alloc (.cells #[.int .i64 0, .string ⟨#[]⟩, .slice none 0 0] 192))) := Lib.hid ⟨(Below.refl _ _).alloc (Nat.le_refl _) _, .inl ⟨rfl, Blk.new w 192 _⟩⟩
  clear ha ht hnn
  go_enter Tryz.func141, Tryz.ntmps141
  go_wp2
  go_loopw [11] (fun vj wr => ∃ j : Nat, vj = .int .i64 j ∧ j ≤ n ∧ Hid (JoinSt w (ts.take j).flatten wr)) (fun vj _ => n - (intOf vj).toNat)
  case atStart => exact ⟨0, rfl, Nat.zero_le _, HS0⟩
  case round =>
    clear HS0
    obtain ⟨j, rfl, hj, K⟩ := hrel
    by_cases hlt : j < n
    · obtain ⟨t, hts⟩ : ∃ t, ts[j]? = some t := ⟨_, List.getElem?_eq_getElem (by rw [← HN.out]; exact hlt)⟩
      obtain ⟨g, off, b, rfl, hg, hcell, hleaf⟩ := HA.out j t hts
      have hcell := (K.out.1.cell (p := ⟨g, off + j, none⟩) hg).trans hcell
      have hg' := Nat.lt_of_lt_of_le hg K.out.1.size
      have hbl := Blk.lt hleaf
      have hleaf := Blk.below (show Blk w b 192 _ from hleaf) K.out.1 hbl
      have p0 := hleaf.cell 0
      have p1 := hleaf.cell 1
      have lp := hleaf.lt
      have hfl : (ts.take (j + 1)).flatten = (ts.take j).flatten ++ t := by rw [take_snoc ts j t hts, List.flatten_append]; simp
      have hle : (ts.take j).flatten.length + t.length ≤ 4096 := by
        have h1 : ((ts.take (j + 1)).flatten ++ (ts.drop (j + 1)).flatten).length = ts.flatten.length := by rw [← List.flatten_append, List.take_append_drop]
        rw [List.length_append, hfl, List.length_append] at h1
        have := HT.out
        omega
      have z1 : (j : Int) < (n : Int) := by omega
      have z0 : (0 : Int) ≤ (j : Int) := by omega
      have HFl := Lib.hid hfl
      obtain ⟨u, hu⟩ : ∃ u, u = (ts.take j).flatten := ⟨_, rfl⟩
      rw [← hu] at K HFl hle
      obtain ⟨q, hq⟩ : ∃ q, q = t.length := ⟨_, rfl⟩
      have Hq := Lib.hid hq
      obtain ⟨m, hm⟩ : ∃ m, m = u.length := ⟨_, rfl⟩
      have Hm := Lib.hid hm
      rw [← hq] at p0 hle
      rw [← hm] at hle
      have HLf := Lib.hid hleaf
      obtain ⟨st, hst⟩ : ∃ st, st = bs t := ⟨_, rfl⟩
      have HSt := Lib.hid hst
      rw [← hst] at p1
      have hbO : b ≠ w.heap.size := by omega
      have hw : IntKind.i64.wrap ((m : Int) + (q : Int)) = (m : Int) + (q : Int) := IntWalk.i64_in _ (by omega)
      clear hleaf hfl hu hq hm hts hst
      have hneg : IntKind.i64.wrap ((0 : Int) - 1) = -1 := by decide
      have hone : IntKind.i64.wrap ((1 : Int) - 1) = 0 := by decide
      by_cases ht0 : q = 0
      · have htn : t = [] := List.length_eq_zero_iff.1 (by have := Hq.out; omega)
        have Htn := Lib.hid htn
        have hq1 : ((q : Int) == 0) = true := by simp [ht0]
        have KP : Hid (Blk wr b 192 #[.int .i64 (q : Int), .string st, .slice none 0 0]) := Lib.hid (by rw [Hq.out, HSt.out]; exact HLf.out)
        have Ht0 := Lib.hid ht0
        clear htn ht0
        obtain ⟨hB, ⟨hu0, hO⟩ | ⟨hu0, G, X, cap, cs, hO, hG, hc, hX, hGl, hXO⟩⟩ := K.out
        · have KO : Hid (Blk wr w.heap.size 192 #[.int .i64 (m : Int), .string ⟨#[]⟩, .slice none 0 0]) := Lib.hid (by rw [show (m : Int) = 0 by have := Hm.out; rw [hu0] at this; simp at this; omega]; exact hO)
          have KZ : Hid (∀ V, V = World.drew wr → JoinSt w (ts.take (j + 1)).flatten (V.setCell ⟨w.heap.size, 0, none⟩ (.int .i64 ((m : Int) + (q : Int))))) := Lib.hid fun V hV => by
            rw [HFl.out, Htn.out, List.append_nil, hV]
            refine ⟨hB.drew.setCell (p := ⟨w.heap.size, 0, none⟩) (Nat.le_refl _) _, .inl ⟨hu0, ?_⟩⟩
            have := (hO.drew).set 0 (.int .i64 ((m : Int) + (q : Int)))
            have e1 : m = 0 := by have h := Hm.out; rw [hu0] at h; exact h
            have e2 := Ht0.out
            rw [show ((m : Int) + (q : Int)) = 0 by omega] at this ⊢
            exact this
          have c0 := KO.out.cell 0
          have c2 := KO.out.cell 2
          have lO := KO.out.lt
          clear K hB hO
          go_wp2
          refine wp_region_still_tail 9 (by kernel_rfl) (by kernel_rfl) ?_
          show wpStill _ _ (World.drew wr) _ _ _
          obtain ⟨V, hV⟩ : ∃ V, V = World.drew wr := ⟨_, rfl⟩
          have HV := Lib.hid hV
          rw [← hV]
          have KOV := KO.out.below (Below.refl _ wr).drew KO.out.lt
          rw [← hV] at KOV
          have KPV := KP.out.below (Below.refl _ wr).drew KP.out.lt
          rw [← hV] at KPV
          have v0 := KOV.cell 0
          have v1 := KPV.cell 0
          have vl0 := KOV.lt
          have vl1 := KPV.lt
          have vf := KOV.frozen 0
          have HZV := Lib.hid (KZ.out V hV)
          clear hV KOV KPV KO KP KZ
          simp only [List.take_succ_cons, List.take_zero, List.drop_succ_cons, List.drop_zero]
          repeat still_step
          refine wpStill_nil ?_
          show wpList _ _ _ _ _ (World.drew wr)
          rw [← HV.out]
          clear HV
          go_wp2
          go_roundw
          case rel => exact ⟨j + 1, by go_num, by omega, HZV⟩
          case measure => simp [intOf]; omega
        · have KO : Hid (Blk wr w.heap.size 192 #[.int .i64 (m : Int), .string ⟨#[]⟩, .slice (some ⟨G, 0, none⟩) 1 cap]) := Lib.hid (by rw [Hm.out]; exact hO)
          have KZ : Hid (∀ V, V = World.drew wr → JoinSt w (ts.take (j + 1)).flatten (V.setCell ⟨w.heap.size, 0, none⟩ (.int .i64 ((m : Int) + (q : Int))))) := Lib.hid fun V hV => by
            rw [HFl.out, Htn.out, List.append_nil, hV]
            refine ⟨hB.drew.setCell (p := ⟨w.heap.size, 0, none⟩) (Nat.le_refl _) _, .inr ⟨hu0, G, X, cap, cs, ?_, (hG.drew).other (by show G ≠ w.heap.size; omega) _, hc, (Blk.drew hX).other (by show X ≠ w.heap.size; exact hXO) _, hGl, hXO⟩⟩
            have := (hO.drew).set 0 (.int .i64 ((m : Int) + (q : Int)))
            rw [show ((m : Int) + (q : Int)) = (u.length : Int) by have := Hm.out; have := Ht0.out; omega] at this ⊢
            exact this
          have c0 := KO.out.cell 0
          have c2 := KO.out.cell 2
          have lO := KO.out.lt
          clear K hB hO
          go_wp2
          refine wp_region_still_tail 9 (by kernel_rfl) (by kernel_rfl) ?_
          show wpStill _ _ (World.drew wr) _ _ _
          obtain ⟨V, hV⟩ : ∃ V, V = World.drew wr := ⟨_, rfl⟩
          have HV := Lib.hid hV
          rw [← hV]
          have KOV := KO.out.below (Below.refl _ wr).drew KO.out.lt
          rw [← hV] at KOV
          have KPV := KP.out.below (Below.refl _ wr).drew KP.out.lt
          rw [← hV] at KPV
          have v0 := KOV.cell 0
          have v1 := KPV.cell 0
          have vl0 := KOV.lt
          have vl1 := KPV.lt
          have vf := KOV.frozen 0
          have HZV := Lib.hid (KZ.out V hV)
          clear hV KOV KPV KO KP KZ
          simp only [List.take_succ_cons, List.take_zero, List.drop_succ_cons, List.drop_zero]
          repeat still_step
          refine wpStill_nil ?_
          show wpList _ _ _ _ _ (World.drew wr)
          rw [← HV.out]
          clear HV
          go_wp2
          go_roundw
          case rel => exact ⟨j + 1, by go_num, by omega, HZV⟩
          case measure => simp [intOf]; omega
      · have hq1 : ((q : Int) == 0) = false := by simp [ht0]
        have htn : t ≠ [] := fun h => ht0 (by rw [Hq.out, h]; rfl)
        have Htn := Lib.hid htn
        have Ht0 := Lib.hid ht0
        clear htn ht0
        obtain ⟨hB, ⟨hu0, hO⟩ | ⟨hu0, G, X, cap, cs, hO, hG, hc, hX, hGl, hXO⟩⟩ := K.out
        · have hm0 : (m : Int) = 0 := by have := Hm.out; rw [hu0] at this; simp at this; omega
          have KO0 : Hid (Blk wr w.heap.size 192 #[.int .i64 (m : Int), .string ⟨#[]⟩, .slice none 0 0]) := Lib.hid (by rw [hm0]; exact hO)
          have c0 := KO0.out.cell 0
          have c2 := KO0.out.cell 2
          have lO := KO0.out.lt
          have HBr := Lib.hid hB
          have Hm0 := Lib.hid hm0
          have Hu0 := Lib.hid hu0
          clear K hB hO hm0 hu0
          go_wp2
          go_quiet (fail)
          obtain ⟨W2, hW2⟩ : ∃ W2, W2 = wr.drewN nq := ⟨_, rfl⟩
          rw [← hW2]
          have hB2 : Below w.heap.size w W2 := by rw [hW2]; exact below_drewN HBr.out _
          have hO2 : Blk W2 w.heap.size 192 #[.int .i64 (m : Int), .string ⟨#[]⟩, .slice none 0 0] := by rw [hW2]; exact KO0.out
          have hP2 : Blk W2 b 192 #[.int .i64 (q : Int), .string st, .slice none 0 0] := by rw [hW2, Hq.out, HSt.out]; exact HLf.out
          clear hW2 c0 c2 lO p0 p1 lp hcell
          have c0 := hO2.cell 0
          have c2 := hO2.cell 2
          have lO := hO2.lt
          have HO3 := Lib.hid (hO2.alloc (.cells #[.pointer (some ⟨b, 0, none⟩)] 133))
          have HP3 := Lib.hid (hP2.alloc (.cells #[.pointer (some ⟨b, 0, none⟩)] 133))
          have HB3 := Lib.hid (hB2.alloc hB2.size (.cells #[.pointer (some ⟨b, 0, none⟩)] 133))
          have HCn := Lib.hid (cells_new W2 #[.pointer (some ⟨b, 0, none⟩)] 133)
          have hsz2 : w.heap.size < W2.heap.size := lO
          clear hB2 hO2 hP2
          go_wp2_with (at_builtin; (refine wpList_append_lies _ rfl (.tmp 25) (.tmp 27) 129 rfl (w.heap.size + 1) 133 i133 _ 1 8 Tryz.underlying129 ti tz tis tb rfl (by omega) (.slice none 0 0) 0 [] rfl ⟨rfl, .inl ⟨rfl, rfl⟩⟩ ⟨W2.heap.size, 0, none⟩ 1 1 [.pointer (some ⟨b, 0, none⟩)] rfl rfl HCn.out (fun x hx => by simp at hx; subst hx; rfl) (by omega) (by unfold maxLen; omega) (by omega) (by simp; omega) _ rfl ?_))
          intro G cap w4 hown hgr hGe hGl
          have hO4 : Blk w4 w.heap.size 192 #[.int .i64 (m : Int), .string ⟨#[]⟩, .slice none 0 0] := HO3.out.kept hgr (by simp [Value.ownBlock])
          have hP4 : Blk w4 b 192 #[.int .i64 (q : Int), .string st, .slice none 0 0] := HP3.out.kept hgr (by simp [Value.ownBlock])
          have hB4 : Below w.heap.size w w4 := HB3.out.grown hgr HB3.out.size (fun j e => by simp [Value.ownBlock] at e)
          obtain ⟨cs, hG4, hcs, hGb⟩ : ∃ cs, Blk w4 G 133 cs ∧ cs[0]? = some (.pointer (some ⟨b, 0, none⟩)) ∧ w.heap.size + 1 ≤ G := by
            rcases hown.2 with ⟨h, _⟩ | ⟨g', cap', cur, h, h1, h2, _, _, _, h3⟩
            · simp at h
            · simp only [Value.slice.injEq, Option.some.injEq, Addr.mk.injEq, and_true, true_and] at h
              obtain ⟨rfl, _⟩ := h
              refine ⟨cur, h2, ?_, h1⟩
              have := congrArg (fun l => l[0]?) h3
              simpa using this
          have d0 := hO4.cell 0
          have d2 := hO4.cell 2
          have f2 := hO4.frozen 2
          have lO4 := hO4.lt
          have KO : Hid (Blk (w4.setCell ⟨w.heap.size, 2, none⟩ (.slice (some ⟨G, 0, none⟩) 1 cap)) w.heap.size 192 #[.int .i64 (m : Int), .string ⟨#[]⟩, .slice (some ⟨G, 0, none⟩) 1 cap]) := Lib.hid (hO4.set 2 _)
          have KP : Hid (Blk (w4.setCell ⟨w.heap.size, 2, none⟩ (.slice (some ⟨G, 0, none⟩) 1 cap)) b 192 #[.int .i64 (q : Int), .string st, .slice none 0 0]) := Lib.hid (hP4.other (by show b ≠ w.heap.size; exact hbO) _)
          have KZ : Hid (∀ V, V = World.drew (w4.setCell ⟨w.heap.size, 2, none⟩ (.slice (some ⟨G, 0, none⟩) 1 cap)) → JoinSt w (ts.take (j + 1)).flatten (V.setCell ⟨w.heap.size, 0, none⟩ (.int .i64 ((m : Int) + (q : Int))))) := Lib.hid fun V hV => by
            rw [HFl.out, Hu0.out, List.nil_append, hV]
            refine ⟨((hB4.setCell (p := ⟨w.heap.size, 2, none⟩) (Nat.le_refl _) _).drew).setCell (p := ⟨w.heap.size, 0, none⟩) (Nat.le_refl _) _, .inr ⟨Htn.out, G, b, cap, cs, ?_, Blk.other (Blk.drew (hG4.other (by show G ≠ w.heap.size; omega) _)) (by show G ≠ w.heap.size; omega) _, hcs, ?_, by omega, hbO⟩⟩
            · have := (KO.out.drew).set 0 (.int .i64 ((m : Int) + (q : Int)))
              have e1 := Hm0.out
              rw [show ((m : Int) + (q : Int)) = (t.length : Int) by have := Hq.out; omega] at this ⊢
              exact this
            · have := (KP.out.drew).other (a := ⟨w.heap.size, 0, none⟩) (by show b ≠ w.heap.size; exact hbO) (.int .i64 ((m : Int) + (q : Int)))
              rw [Hq.out, HSt.out] at this
              rw [Hq.out]
              exact this
          clear hown hgr hGe hO4 hP4 hB4 hG4 hcs HO3 HP3 HB3 HCn c0 c2 lO KO0
          go_wp2
          refine wp_region_still_tail 9 (by kernel_rfl) (by kernel_rfl) ?_
          show wpStill _ _ (World.drew (w4.setCell ⟨w.heap.size, 2, none⟩ (.slice (some ⟨G, 0, none⟩) 1 cap))) _ _ _
          obtain ⟨V, hV⟩ : ∃ V, V = World.drew (w4.setCell ⟨w.heap.size, 2, none⟩ (.slice (some ⟨G, 0, none⟩) 1 cap)) := ⟨_, rfl⟩
          have HV := Lib.hid hV
          rw [← hV]
          have KOV := KO.out.below (Below.refl _ (w4.setCell ⟨w.heap.size, 2, none⟩ (.slice (some ⟨G, 0, none⟩) 1 cap))).drew KO.out.lt
          rw [← hV] at KOV
          have KPV := KP.out.below (Below.refl _ (w4.setCell ⟨w.heap.size, 2, none⟩ (.slice (some ⟨G, 0, none⟩) 1 cap))).drew KP.out.lt
          rw [← hV] at KPV
          have v0 := KOV.cell 0
          have v1 := KPV.cell 0
          have vl0 := KOV.lt
          have vl1 := KPV.lt
          have vf := KOV.frozen 0
          have HZV := Lib.hid (KZ.out V hV)
          clear hV KOV KPV KO KP KZ
          simp only [List.take_succ_cons, List.take_zero, List.drop_succ_cons, List.drop_zero]
          repeat still_step
          refine wpStill_nil ?_
          show wpList _ _ _ _ _ (World.drew (w4.setCell ⟨w.heap.size, 2, none⟩ (.slice (some ⟨G, 0, none⟩) 1 cap)))
          rw [← HV.out]
          clear HV
          go_wp2
          go_roundw
          case rel => exact ⟨j + 1, by go_num, by omega, HZV⟩
          case measure => simp [intOf]; omega
        · have KO0 : Hid (Blk wr w.heap.size 192 #[.int .i64 (m : Int), .string ⟨#[]⟩, .slice (some ⟨G, 0, none⟩) 1 cap]) := Lib.hid (by rw [Hm.out]; exact hO)
          obtain ⟨su, hsu⟩ : ∃ su, su = bs u := ⟨_, rfl⟩
          have KX0 : Hid (Blk wr X 192 #[.int .i64 (m : Int), .string su, .slice none 0 0]) := Lib.hid (by rw [Hm.out, hsu]; exact hX)
          have KP0 : Hid (Blk wr b 192 #[.int .i64 (q : Int), .string st, .slice none 0 0]) := Lib.hid (by rw [Hq.out, HSt.out]; exact HLf.out)
          have hsz1 : su.size = m := by rw [hsu, bs_size, Hm.out]
          have hsz2 : st.size = q := by rw [HSt.out, bs_size, Hq.out]
          have HCat : Hid (su ++ st = bs (u ++ t)) := Lib.hid (by
            rw [hsu, HSt.out]
            apply ByteArray.ext
            rw [ByteArray.data_append]
            unfold bs
            simp)
          have c0 := KO0.out.cell 0
          have c2 := KO0.out.cell 2
          have lO := KO0.out.lt
          have hGc := (hG.cell 0).trans hc
          have lG := hG.lt
          have x0 := KX0.out.cell 0
          have x1 := KX0.out.cell 1
          have lX := KX0.out.lt
          have HBr := Lib.hid hB
          have Hu0 := Lib.hid hu0
          have HGB := Lib.hid hG
          have HCs := Lib.hid hc
          have h4 : (m : Int) + (q : Int) ≤ 4096 := by omega
          clear K hB hO hu0 hX hG hc hsu
          go_wp2
          go_quiet (fail)
          obtain ⟨W2, hW2⟩ : ∃ W2, W2 = wr.drewN nq := ⟨_, rfl⟩
          rw [← hW2]
          have HB2 : Hid (Below w.heap.size w W2) := Lib.hid (by rw [hW2]; exact below_drewN HBr.out _)
          have hO2 : Blk W2 w.heap.size 192 #[.int .i64 (m : Int), .string ⟨#[]⟩, .slice (some ⟨G, 0, none⟩) 1 cap] := by rw [hW2]; exact KO0.out
          have hP2 : Blk W2 b 192 #[.int .i64 (q : Int), .string st, .slice none 0 0] := by rw [hW2]; exact KP0.out
          have hX2 : Blk W2 X 192 #[.int .i64 (m : Int), .string su, .slice none 0 0] := by rw [hW2]; exact KX0.out
          have hG2 : Blk W2 G 133 cs := by rw [hW2]; exact HGB.out
          have HO2 := Lib.hid hO2
          have HP2 := Lib.hid hP2
          have HG2 := Lib.hid hG2
          clear hW2 c0 c2 lO p0 p1 lp hcell x0 x1 lX hGc lG
          have c0 := hO2.cell 0
          have c2 := hO2.cell 2
          have lO := hO2.lt
          have p0 := hP2.cell 0
          have p1 := hP2.cell 1
          have lp := hP2.lt
          have x0 := hX2.cell 0
          have x1 := hX2.cell 1
          have lX := hX2.lt
          have hGc := (hG2.cell 0).trans HCs.out
          have lG := hG2.lt
          have fG := hG2.frozen 0
          have hGO : G ≠ w.heap.size := by omega
          have hbG : b ≠ G := by omega
          clear hO2 hP2 hX2 hG2 KO0 KX0 KP0 HGB HBr
          go_wp2
          obtain ⟨L, hL⟩ : ∃ L, L = W2.heap.size := ⟨_, rfl⟩
          obtain ⟨W3, hW3⟩ : ∃ W3, W3 = (W2.setCell ⟨G, 0, none⟩ (.pointer (some ⟨L, 0, none⟩))).alloc (.cells #[.int .i64 ((m : Int) + (q : Int)), .string (su ++ st), .slice none 0 0] 192) := ⟨_, rfl⟩
          have hLO : w.heap.size < L := by omega
          have hGL : G < L := by omega
          have hsz : (W2.setCell ⟨G, 0, none⟩ (.pointer (some ⟨L, 0, none⟩))).heap.size = L := by simp [World.setCell, hL]
          have KO : Hid (Blk W3.drew w.heap.size 192 #[.int .i64 (m : Int), .string ⟨#[]⟩, .slice (some ⟨G, 0, none⟩) 1 cap]) := Lib.hid (by
            rw [hW3]
            exact ((HO2.out.other (by show w.heap.size ≠ G; omega) _).alloc _).drew)
          have KP : Hid (Blk W3.drew b 192 #[.int .i64 (q : Int), .string st, .slice none 0 0]) := Lib.hid (by
            rw [hW3]
            exact ((HP2.out.other (by show b ≠ G; exact hbG) _).alloc _).drew)
          have KG : Hid (Blk W3.drew G 133 (cs.setIfInBounds 0 (.pointer (some ⟨L, 0, none⟩)))) := Lib.hid (by
            rw [hW3]
            exact ((HG2.out.set 0 _).alloc _).drew)
          have KX : Hid (Blk W3.drew L 192 #[.int .i64 ((m : Int) + (q : Int)), .string (su ++ st), .slice none 0 0]) := Lib.hid (by
            have := Blk.new (W2.setCell ⟨G, 0, none⟩ (.pointer (some ⟨L, 0, none⟩))) 192 #[.int .i64 ((m : Int) + (q : Int)), .string (su ++ st), .slice none 0 0]
            rw [hsz] at this
            rw [hW3]
            exact this.drew)
          have KB : Hid (Below w.heap.size w W3.drew) := Lib.hid (by
            rw [hW3]
            have h1 := HB2.out.setCell (p := ⟨G, 0, none⟩) (by show w.heap.size ≤ G; omega) (.pointer (some ⟨L, 0, none⟩))
            exact (h1.alloc h1.size _).drew)
          have hun : u ++ t ≠ [] := by simp [Hu0.out]
          have hcs : 0 < cs.size := by
            rcases Nat.eq_zero_or_pos cs.size with h | h
            · have := HCs.out
              rw [Array.getElem?_eq_none (by omega)] at this
              cases this
            · exact h
          have KZ : Hid (∀ V, V = World.drew W3.drew → JoinSt w (ts.take (j + 1)).flatten (V.setCell ⟨w.heap.size, 0, none⟩ (.int .i64 ((m : Int) + (q : Int))))) := Lib.hid fun V hV => by
            rw [HFl.out, hV]
            have hlen : ((m : Int) + (q : Int)) = ((u ++ t).length : Int) := by rw [List.length_append, ← Hm.out, ← Hq.out]; simp
            refine ⟨KB.out.drew.setCell (p := ⟨w.heap.size, 0, none⟩) (Nat.le_refl _) _, .inr ⟨hun, G, L, cap, cs.setIfInBounds 0 (.pointer (some ⟨L, 0, none⟩)), ?_, (KG.out.drew).other (by show G ≠ w.heap.size; omega) _, by simp [hcs], ?_, by omega, by show L ≠ w.heap.size; omega⟩⟩
            · have := (KO.out.drew).set 0 (.int .i64 ((m : Int) + (q : Int)))
              rw [hlen] at this ⊢
              exact this
            · have := (KX.out.drew).other (a := ⟨w.heap.size, 0, none⟩) (by show L ≠ w.heap.size; omega) (.int .i64 ((m : Int) + (q : Int)))
              show Blk _ L 192 _
              rw [← HCat.out, ← hlen]
              exact this
          have HL := Lib.hid hL
          have HW3 := Lib.hid hW3
          clear hL hW3 KG KX KB hsz
          have hcat : ¬ 9223372036854775807 < m + q := by omega
          have hcat2 : ¬ 9223372036854775807 < su.size + st.size := by omega
          go_region_law (go_simp; refine (whole_ba (su ++ st) _ (by simp; omega)).mono ?_; rintro e w5 ⟨rfl, rfl⟩)
          all_goals (rw [← HL.out, ← HW3.out])
          all_goals (
            clear HL HW3 HO2 HP2 HG2 HB2 hcell c0 c2 lO p0 p1 lp x0 x1 lX hGc lG fG
            have c0 := KO.out.cell 0
            have c2 := KO.out.cell 2
            have lO := KO.out.lt
            go_wp2
            refine wp_region_still_tail 9 (by kernel_rfl) (by kernel_rfl) ?_
            show wpStill _ _ (World.drew W3.drew) _ _ _
            obtain ⟨V, hV⟩ : ∃ V, V = World.drew W3.drew := ⟨_, rfl⟩
            have HV := Lib.hid hV
            rw [← hV]
            have KOV := KO.out.below (Below.refl _ W3.drew).drew KO.out.lt
            rw [← hV] at KOV
            have KPV := KP.out.below (Below.refl _ W3.drew).drew KP.out.lt
            rw [← hV] at KPV
            have v0 := KOV.cell 0
            have v1 := KPV.cell 0
            have vl0 := KOV.lt
            have vl1 := KPV.lt
            have vf := KOV.frozen 0
            have HZV := Lib.hid (KZ.out V hV)
            clear hV KOV KPV KO KP KZ
            simp only [List.take_succ_cons, List.take_zero, List.drop_succ_cons, List.drop_zero]
            repeat still_step
            refine wpStill_nil ?_
            show wpList _ _ _ _ _ (World.drew W3.drew)
            rw [← HV.out]
            clear HV
            go_wp2
            go_roundw
            case rel => exact ⟨j + 1, by go_num, by omega, HZV⟩
            case measure => simp [intOf]; omega)
    · obtain rfl : j = n := by omega
      have e : ts.take j = ts := List.take_of_length_le (by have := HN.out; omega)
      rw [e] at K
      obtain ⟨hB, ⟨hu, hO⟩ | ⟨hu, G, X, cap, cs, hO, hG, hc, hX, hGl, _⟩⟩ := K.out
      · have c2 := hO.cell 2
        have lO := hO.lt
        have HB := Lib.hid hB
        have HL : Hid (Leaf wr w.heap.size ts.flatten) := Lib.hid (by rw [hu]; exact hO)
        clear K hB hO hu
        go_wp2
        go_ret
        exact ⟨w.heap.size, rfl, HL.out, HB.out⟩
      · have c2 := hO.cell 2
        have lO := hO.lt
        have lG := hG.lt
        have g0 := (hG.cell 0).trans hc
        have HB := Lib.hid hB
        have HL := Lib.hid hX
        clear K hB hO hG hc hX hu
        go_wp2
        go_ret
        exact ⟨X, rfl, HL.out, HB.out⟩
end Go.Proofs.YtodnlcbnbkkanaaGreatDoor
end
section
namespace Go.Proofs.YtodnlcbnbkkanaaGreatDoor
open Go Go.RowKit Go.Shelf

def wbits (w : Nat) : List Nat := (List.range' 0 64).filter (fun j => w.testBit j)

theorem filter_at (p q : Nat → Bool) (k n : Nat) (hk : k < n) (h0 : ∀ j, j < k → p j = false) (h1 : p k = true) (hq : ∀ j, q j = (p j && decide (j ≠ k))) :
    (List.range' 0 n).filter p = k :: (List.range' 0 n).filter q := by
  have e : List.range' 0 n = List.range' 0 k ++ (k :: List.range' (k + 1) (n - (k + 1))) := by
    have h2 : List.range' 0 n = List.range' 0 k ++ List.range' k (n - k) := by
      have := List.range'_append_1 (s := 0) (m := k) (n := n - k)
      rw [Nat.zero_add] at this
      rw [this]; congr 1; omega
    rw [h2]
    have h3 : n - k = (n - (k + 1)) + 1 := by omega
    rw [h3, List.range'_succ]
  have p0 : (List.range' 0 k).filter p = [] := by
    rw [List.filter_eq_nil_iff]; intro j hj
    rw [List.mem_range'_1] at hj
    rw [h0 j (by omega)]; simp
  have q0 : (List.range' 0 k).filter q = [] := by
    rw [List.filter_eq_nil_iff]; intro j hj
    rw [List.mem_range'_1] at hj
    rw [hq, h0 j (by omega)]; simp
  have qk : q k = false := by rw [hq]; simp
  rw [e, List.filter_append, List.filter_append, p0, q0, List.filter_cons, List.filter_cons, h1, qk]
  simp only [List.nil_append, if_true, Bool.false_eq_true, if_false]
  congr 1
  apply List.filter_congr
  intro j hj
  rw [List.mem_range'_1] at hj
  rw [hq]
  have : j ≠ k := by omega
  simp [this]

theorem bits_low (w : Nat) (h0 : w ≠ 0) (h : w < 2 ^ 64) : wbits w = Lib.ctz 64 w :: wbits (w &&& (w - 1)) ∧ Lib.ctz 64 w < 64 ∧ w &&& (w - 1) < w := by
  obtain ⟨m, hm, hk⟩ := Lib.ctzFrom_spec 64 w (by omega) h
  have hc : Lib.ctz 64 w = Lib.ctzFrom 64 w := by unfold Lib.ctz; simp [h0]
  rw [hc]
  generalize Lib.ctzFrom 64 w = k at hm hk
  have hp : 0 < 2 ^ k := Nat.two_pow_pos k
  have hw : ∀ j, w.testBit j = (decide (k ≤ j) && (2 * m + 1).testBit (j - k)) := by
    intro j; rw [hm, Nat.testBit_two_pow_mul]
  have hw1 : w - 1 = 2 ^ k * (2 * m) + (2 ^ k - 1) := by
    rw [hm, Nat.mul_add]; omega
  have hv : ∀ j, k ≤ j → (w - 1).testBit j = (2 * m).testBit (j - k) := by
    intro j hj
    rw [hw1, Nat.testBit_two_pow_mul_add _ (by omega)]
    simp [Nat.not_lt.2 hj]
  have hb0 : (2 * m + 1).testBit 0 = true := by simp [Nat.testBit_zero]
  have hb1 : (2 * m).testBit 0 = false := by simp [Nat.testBit_zero]
  have hs : ∀ n, (2 * m + 1).testBit (n + 1) = (2 * m).testBit (n + 1) := by
    intro n
    rw [Nat.testBit_succ, Nat.testBit_succ]
    congr 1; omega
  refine ⟨?_, hk, ?_⟩
  · refine filter_at _ _ k 64 hk ?_ ?_ ?_
    · intro j hj; rw [hw]; simp [Nat.not_le.2 hj]
    · rw [hw]; simp [hb0]
    · intro j
      rw [Nat.testBit_and]
      by_cases h1 : j < k
      · rw [hw]; simp [Nat.not_le.2 h1]
      · by_cases h2 : j = k
        · subst h2; rw [hv j (Nat.le_refl _)]; simp [hb1]
        · rw [hw, hv j (by omega)]
          obtain ⟨n, hn⟩ : ∃ n, j - k = n + 1 := ⟨j - k - 1, by omega⟩
          rw [hn, hs]
          simp [h2]
  · have h1 : w &&& (w - 1) ≤ w - 1 := Nat.and_le_right
    omega

theorem wbits_zero : wbits 0 = [] := by unfold wbits; rw [List.filter_eq_nil_iff]; simp
def bytesL (s : BS) : List Nat := (List.range' 0 256).filter (fun j => s.getLsbD j)

def wordL (s : BS) (i : Nat) : List Nat := (wbits (wd s i).toNat).map (64 * i + ·)
def restF (s : BS) : Nat → Nat → List Nat
  | 0, _ => []
  | n + 1, i => wordL s i ++ restF s n (i + 1)
def restW (s : BS) (i : Nat) : List Nat := restF s (4 - i) i
theorem restW_step (s : BS) (i : Nat) (h : i < 4) : restW s i = wordL s i ++ restW s (i + 1) := by
  unfold restW
  rw [show 4 - i = (4 - (i + 1)) + 1 by omega, restF]
theorem restW_end (s : BS) : restW s 4 = [] := rfl

theorem word_part (s : BS) (i : Nat) : (List.range' (64 * i) 64).filter (fun j => s.getLsbD j) = (wbits (wd s i).toNat).map (64 * i + ·) := by
  have e : List.range' (64 * i) 64 = (List.range' 0 64).map (64 * i + ·) := by
    rw [List.map_add_range']; simp
  rw [e, List.filter_map]
  congr 1
  unfold wbits
  apply List.filter_congr
  intro j hj
  rw [List.mem_range'_1] at hj
  show s.getLsbD (64 * i + j) = (wd s i).toNat.testBit j
  rw [← BitVec.getLsbD, wd_bit]
  simp [show j < 64 by omega]

theorem bytesL_words (s : BS) : bytesL s = restW s 0 := by
  rw [restW_step s 0 (by omega), restW_step s 1 (by omega), restW_step s 2 (by omega), restW_step s 3 (by omega), restW_end, List.append_nil]
  unfold wordL
  rw [← word_part, ← word_part, ← word_part, ← word_part, ← List.filter_append, ← List.filter_append, ← List.filter_append]
  have h3 : List.range' 128 64 ++ List.range' 192 64 = List.range' 128 128 := List.range'_append_1 (s := 128) (m := 64) (n := 64)
  have h2 : List.range' 64 64 ++ List.range' 128 128 = List.range' 64 192 := List.range'_append_1 (s := 64) (m := 64) (n := 128)
  have h1 : List.range' 0 64 ++ List.range' 64 192 = List.range' 0 256 := List.range'_append_1 (s := 0) (m := 64) (n := 192)
  simp only [Nat.reduceMul, Nat.reduceAdd]
  rw [h3, h2, h1]
  rfl

theorem mem_bytesL (s : BS) (b : Nat) : b ∈ bytesL s ↔ b < 256 ∧ s.getLsbD b = true := by
  unfold bytesL
  rw [List.mem_filter, List.mem_range'_1]
  constructor
  · rintro ⟨h1, h2⟩; exact ⟨by omega, h2⟩
  · rintro ⟨h1, h2⟩; exact ⟨by omega, h2⟩

theorem ix0 (a b c d : Int) (w : World) : (Instr.index 47 (.agg #[.int .u64 a, .int .u64 b, .int .u64 c, .int .u64 d]) (.int .i64 0)).run Tryz.prog w = .ok (.int .u64 a) w := by kernel_rfl
theorem ix1 (a b c d : Int) (w : World) : (Instr.index 47 (.agg #[.int .u64 a, .int .u64 b, .int .u64 c, .int .u64 d]) (.int .i64 1)).run Tryz.prog w = .ok (.int .u64 b) w := by kernel_rfl
theorem ix2 (a b c d : Int) (w : World) : (Instr.index 47 (.agg #[.int .u64 a, .int .u64 b, .int .u64 c, .int .u64 d]) (.int .i64 2)).run Tryz.prog w = .ok (.int .u64 c) w := by kernel_rfl
theorem ix3 (a b c d : Int) (w : World) : (Instr.index 47 (.agg #[.int .u64 a, .int .u64 b, .int .u64 c, .int .u64 d]) (.int .i64 3)).run Tryz.prog w = .ok (.int .u64 d) w := by kernel_rfl

attribute [local go_sem] Oper.semAt_some

def KpG (W W' : World) : Prop := ∀ j v, W.cell? ⟨1, j, none⟩ = some v → W'.cell? ⟨1, j, none⟩ = some v
theorem kpG_t {A B C : World} (h : KpG A B) (k : KpG B C) : KpG A C := fun j v hv => k j v (h j v hv)
theorem kpG_b {w : World} (W : World) (l : Nat) (o o' : Obj) (_ : w.heap.size ≤ l) (h : W.heap[l]? = some o) (hc : o.isCells = false) (_ : o.isWalk = false) : KpG W (W.putObj l o') :=
  fun _ _ hv => Go.cell_kept hv (grownBy_putObj' W l o') (fun r e => by cases e; exact ⟨o, h, hc⟩)
theorem KpG.tab {W W' : World} (h : KpG W W') (hT : TabAt 1 Lib.deBruijn64tab W) : TabAt 1 Lib.deBruijn64tab W' := fun j hj => h _ _ (hT j hj)
theorem KpG.below {W W' : World} {n : Nat} (h : Below n W W') (hn : 1 < n) : KpG W W' := fun j v hv => (h.cell (p := ⟨1, j, none⟩) hn).trans hv

set_option maxRecDepth 100000 in
set_option maxHeartbeats 4000000 in
theorem bytes1_in (n : Nat) (hn : 1 ≤ n) (l Bn : Nat) (s : BS) (J Jx : List Nat → World → Prop)
    (hY : ∀ pre (x : Nat) W, x < 256 → J pre W → pre.length < (bytesL s).length → YieldAt Fence.wide (n - 1) Tryz.prog l #[.int .u8 x] W fun e W' =>
      (e = .returned (.bool true) ∧ J (pre ++ [x]) W' ∧ KpG W W') ∨ (e = .returned (.bool false) ∧ Jx (pre ++ [x]) W'))
    (W : World) (hBn : ∀ i, W.cell? ⟨Bn, i, none⟩ = (cset s)[i]?) (hT : TabAt 1 Lib.deBruijn64tab W) (h0 : J [] W) :
    CallsIn Fence.wide n Tryz.prog 172 #[.func (.yield l) #[] #[], .pointer (some ⟨Bn, 0, none⟩)] W fun e W' => (∃ v, e = .returned v) ∧
      ((∃ ys, ys = bytesL s ∧ J ys W') ∨ (∃ pre, pre <+: bytesL s ∧ Jx pre W')) := by
  have c0 : W.cell? ⟨Bn, 0, none⟩ = some (.int .u64 (wdI s 0)) := hBn 0
  have c1 : W.cell? ⟨Bn, 1, none⟩ = some (.int .u64 (wdI s 1)) := hBn 1
  have c2 : W.cell? ⟨Bn, 2, none⟩ = some (.int .u64 (wdI s 2)) := hBn 2
  have c3 : W.cell? ⟨Bn, 3, none⟩ = some (.int .u64 (wdI s 3)) := hBn 3
  have HT := Lib.hid hT
  clear hBn hT
  refine callsIn_of_wp Tryz.func172 rfl trivial ?_ rfl
  simp only [Tryz.ntmps172, List.size_toArray, List.length_cons, List.length_nil, Nat.reduceAdd, Nat.reduceSub, Array.replicate_succ, Array.replicate_zero, List.push_toArray, List.append_toArray, List.nil_append, List.cons_append]
  gi_wp2
  clear c0 c1 c2 c3
  gi_loopw [6] (fun p wr => ∃ (pre : List Nat) (i : Nat), p = .int .i64 i ∧ i ≤ 4 ∧ Hid (bytesL s = pre ++ restW s i) ∧ J pre wr ∧ Hid (TabAt 1 Lib.deBruijn64tab wr))
    (fun p _ => 4 - (intOf p).toNat)
  case atStart => exact ⟨[], 0, rfl, by omega, bytesL_words s, h0, HT⟩
  case round =>
    obtain ⟨pre, i, rfl, hi, hx, hJ, hTr⟩ := hrel
    by_cases hi4 : i < 4
    · have hix : ∀ w', (Instr.index 47 (.agg #[.int .u64 (wdI s 0), .int .u64 (wdI s 1), .int .u64 (wdI s 2), .int .u64 (wdI s 3)]) (.int .i64 i)).run Tryz.prog w' = .ok (.int .u64 (wdI s i)) w' := by
        have h : i = 0 ∨ i = 1 ∨ i = 2 ∨ i = 3 := by omega
        rcases h with rfl | rfl | rfl | rfl
        · exact ix0 _ _ _ _
        · exact ix1 _ _ _ _
        · exact ix2 _ _ _ _
        · exact ix3 _ _ _ _
      gi_wp2
      obtain ⟨wo, rfl⟩ : ∃ wo : World, wo = wr := ⟨_, rfl⟩
      clear hix
      have hdec : decide ((i : Int) < 4) = true := decide_eq_true (by omega)
      rw [hdec]
      clear hdec
      gi_loopw [4] (fun q wr => ∃ (pre : List Nat) (v : Nat), q = .int .u64 v ∧ v < 18446744073709551616 ∧ Hid (bytesL s = pre ++ ((wbits v).map (64 * i + ·) ++ restW s (i + 1))) ∧ J pre wr ∧ Hid (TabAt 1 Lib.deBruijn64tab wr))
        (fun q _ => (intOf q).toNat)
      case atStart =>
        refine ⟨pre, (wd s i).toNat, rfl, (wd s i).isLt, ?_, hJ, hTr⟩
        refine Lib.hid ?_
        rw [hx.out, restW_step s i hi4]; rfl
      case round =>
        clear hJ hTr hx
        obtain ⟨pre, v, rfl, hv, hx, hJ, hTr⟩ := hrel
        by_cases hv0 : v = 0
        · subst hv0
          have hx2 : Hid (bytesL s = pre ++ restW s (i + 1)) := by
            refine Lib.hid ?_
            rw [hx.out, wbits_zero]; rfl
          gi_wp2
          go_roundw
          case rel => exact ⟨pre, i + 1, by go_num, by omega, hx2, hJ, hTr⟩
          case measure => simp [intOf]; omega
        · have hv1 : ¬ (v : Int) = 0 := by omega
          obtain ⟨hb1, hb2, hb3⟩ := bits_low v hv0 hv
          have hz := Lib.hid (Tryz.bits_TrailingZeros64 v hv wr (fun _ => hTr.out))
          have hxx : Hid (bytesL s = (pre ++ [64 * i + Lib.ctz 64 v]) ++ ((wbits (v &&& (v - 1))).map (64 * i + ·) ++ restW s (i + 1))) := by
            refine Lib.hid ?_
            rw [hx.out, hb1]; simp
          have hlen : pre.length < (bytesL s).length := by rw [hxx.out]; simp
          obtain ⟨fn, tmps, assign, body, hy, hR⟩ := hY pre (64 * i + Lib.ctz 64 v) wr (by omega) hJ hlen
          have hband : bits .and .u64 (v : Int) ((v : Int) - 1) = ((v &&& (v - 1) : Nat) : Int) := by
            have := bits_and_u64_nat v (v - 1) hv (by omega)
            rw [← this]; congr 1; omega
          generalize Lib.ctz 64 v = z at hz hxx hb2 hy hR hlen
          clear hb1 hx
          have hcast : ((64 * i + z : Nat) : Int) = (i : Int) * 64 + (z : Int) := by omega
          rw [hcast] at hy
          clear hcast
          gi_wp2_with (refine ⟨trivial, ?_⟩; gi_at_call 173; refine (callsIn_wide.2 hz.out).mono ?_; rintro e w' ⟨rfl, rfl⟩)
          refine hR.mono ?_
          rintro e W3 (⟨rfl, hJ3, hk3⟩ | ⟨rfl, hJx3⟩)
          · have hT3 := Lib.hid (hk3.tab hTr.out)
            gi_wp2
            go_roundw
            case rel => exact ⟨pre ++ [64 * i + z], v &&& (v - 1), rfl, by omega, hxx, hJ3, hT3⟩
            case measure => simp [intOf]; omega
          · gi_wp2
            refine bodyPost_ret (results_none rfl _ _ _) rfl ?_
            exact ⟨⟨_, rfl⟩, .inr ⟨pre ++ [64 * i + z], by rw [hxx.out]; exact List.prefix_append _ _, hJx3⟩⟩
    · obtain rfl : i = 4 := by omega
      gi_wp2
      go_end0
      exact ⟨⟨_, rfl⟩, .inl ⟨pre, by rw [hx.out, restW_end, List.append_nil], hJ⟩⟩
theorem bytes_in (n : Nat) (s : BS) (w : World) :
    CallsIn Fence.wide n Tryz.prog 160 #[vset s] w fun e w' => e = .returned (.func (.func 172) #[] #[.pointer (some ⟨w.heap.size, 0, none⟩)]) ∧ w' = w.alloc (.cells (cset s) 47) := by
  unfold vset cset
  refine callsIn_of_wp Tryz.func160 rfl trivial ?_ rfl
  simp only [Tryz.ntmps160, List.size_toArray, List.length_cons, List.length_nil, Nat.reduceAdd, Nat.reduceSub, Array.replicate_succ, Array.replicate_zero, List.push_toArray, List.append_toArray, List.nil_append, List.cons_append]
  gi_wp2
  go_ret
  exact ⟨rfl, rfl⟩

theorem bytes_stops (n : Nat) (hn : 1 ≤ n) (Bn : Nat) (s : BS) (w : World) (hBn : Blk w Bn 47 (cset s)) (hT : TabAt 1 Lib.deBruijn64tab w) :
    SeqStopsK Fence.wide n Tryz.prog 172 #[.pointer (some ⟨Bn, 0, none⟩)] (fun x : Fin 256 => #[Value.int .u8 ((x.val : Nat) : Int)]) KpG (fun ys => ys.map Fin.val = bytesL s) (fun pre => pre.map Fin.val <+: bytesL s) (bytesL s).length w := by
  intro l J Jx W hW _ _ hY h0
  have hc : ∀ i, W.cell? ⟨Bn, i, none⟩ = (cset s)[i]? := (hBn.below hW hBn.lt).cell
  have hT' : TabAt 1 Lib.deBruijn64tab W := fun j hj => by
    have := hT j hj
    exact (hW.cell (p := ⟨1, j, none⟩) (lt_of_cell this)).trans this
  refine (bytes1_in n hn l Bn s (fun p W => ∃ q : List (Fin 256), p = q.map Fin.val ∧ J q W) (fun p W => ∃ q : List (Fin 256), p = q.map Fin.val ∧ Jx q W) ?_ W hc hT' ⟨[], rfl, h0⟩).mono ?_
  · rintro pre x W2 hx ⟨q, rfl, hJ⟩ hlen
    have h := hY q ⟨x, hx⟩ W2 hJ (by simpa using hlen)
    refine h.mono ?_
    rintro e W3 (⟨h1, h2, h3⟩ | ⟨h1, h2⟩)
    · exact .inl ⟨h1, ⟨q ++ [⟨x, hx⟩], by simp, h2⟩, h3⟩
    · exact .inr ⟨h1, ⟨q ++ [⟨x, hx⟩], by simp, h2⟩⟩
  · rintro e W2 ⟨h1, ⟨ys, hys, q, hq, hJ⟩ | ⟨pre, hpre, q, hq, hJ⟩⟩
    · exact ⟨h1, .inl ⟨q, hq.symm.trans hys, hJ⟩⟩
    · exact ⟨h1, .inr ⟨q, by show q.map Fin.val <+: _; rw [← hq]; exact hpre, hJ⟩⟩

theorem cell_new_l (W : World) (v : Value) (t : TypeId) : (W.alloc (.cells #[v] t)).cell? ⟨W.heap.size, 0, none⟩ = some v ∧ (W.alloc (.cells #[v] t)).frozen? ⟨W.heap.size, 0, none⟩ = false :=
  ⟨(Boxed.new W t v).cell, (Boxed.new W t v).frozen⟩
theorem cell_alloc_l {W : World} {a : Addr} {v : Value} (o : Obj) (h : W.cell? a = some v) : (W.alloc o).cell? a = some v := Go.cell_kept h (World.grownBy_alloc W o none) (fun r e => by cases e)
theorem frozen_alloc_l {W : World} {a : Addr} {v : Value} (o : Obj) (h : W.cell? a = some v) (hf : W.frozen? a = false) : (W.alloc o).frozen? a = false := (frozen_kept h (World.grownBy_alloc W o none) (fun r e => by cases e)).trans hf

theorem set_same_l {W : World} {a : Addr} {u v : Value} (h : W.cell? a = some u) : (W.setCell a v).cell? a = some v := World.cell?_setCell_same _ _ _ h
theorem set_else_l {W : World} {b c : Nat} {u v : Value} (h : W.cell? ⟨b, 0, none⟩ = some u) (hne : c ≠ b) : (W.setCell ⟨c, 0, none⟩ v).cell? ⟨b, 0, none⟩ = some u :=
  (World.cell?_setCell_other W ⟨c, 0, none⟩ ⟨b, 0, none⟩ v (fun e => hne (by injection e))).trans h
def leastV : List Nat → Value
  | [] => .tuple #[.int .u8 0, .bool false]
  | x :: _ => .tuple #[.int .u8 x, .bool true]

set_option maxRecDepth 100000 in
set_option maxHeartbeats 4000000 in
theorem least_in (n : Nat) (hn : 6 ≤ n) (s : BS) (w : World) (hG : TabAt 1 Lib.deBruijn64tab w) :
    CallsIn Fence.wide n Tryz.prog 139 #[vset s] w fun e W' => e = .returned (leastV (bytesL s)) ∧ Below w.heap.size w W' := by
  have h1 : 1 ≤ n := by omega
  have h00 : 1 < w.heap.size := lt_of_cell (hG 0 (by decide))
  unfold vset
  refine callsIn_of_wp_marks Tryz.func139 rfl trivial ?_ rfl
  simp only [Tryz.ntmps139, List.size_toArray, List.length_cons, List.length_nil, Nat.reduceAdd, Nat.reduceSub, Array.replicate_succ, Array.replicate_zero, List.push_toArray, List.append_toArray, List.nil_append, List.cons_append]
  gi_wp2_with (refine ⟨trivial, ?_⟩; gi_at_call 160; refine (bytes_in (n - 1) s _).mono ?_; rintro e w' ⟨rfl, rfl⟩)
  have bT := Blk.new (((w.alloc (.cells #[.int .u64 (wdI s 0), .int .u64 (wdI s 1), .int .u64 (wdI s 2), .int .u64 (wdI s 3)] 47)).alloc (.cells #[.int .u8 0] 5)).alloc (.cells #[.bool false] 4)) 47 (cset s)
  have c1 := cell_new_l (w.alloc (.cells #[.int .u64 (wdI s 0), .int .u64 (wdI s 1), .int .u64 (wdI s 2), .int .u64 (wdI s 3)] 47)) (.int .u8 0) 5
  have c2 := cell_new_l ((w.alloc (.cells #[.int .u64 (wdI s 0), .int .u64 (wdI s 1), .int .u64 (wdI s 2), .int .u64 (wdI s 3)] 47)).alloc (.cells #[.int .u8 0] 5)) (.bool false) 4
  simp only [World.size_alloc] at bT c1 c2
  have k1 := cell_alloc_l (.cells (cset s) 47) (cell_alloc_l (.cells #[.bool false] 4) c1.1)
  have f1 := frozen_alloc_l (.cells (cset s) 47) (cell_alloc_l (.cells #[.bool false] 4) c1.1) (frozen_alloc_l (.cells #[.bool false] 4) c1.1 c1.2)
  have k2 := cell_alloc_l (.cells (cset s) 47) c2.1
  have f2 := frozen_alloc_l (.cells (cset s) 47) c2.1 c2.2
  have hB0 : Below w.heap.size w ((((w.alloc (.cells #[.int .u64 (wdI s 0), .int .u64 (wdI s 1), .int .u64 (wdI s 2), .int .u64 (wdI s 3)] 47)).alloc (.cells #[.int .u8 0] 5)).alloc (.cells #[.bool false] 4)).alloc (.cells (cset s) 47)) :=
    ((((Below.refl _ w).alloc (Nat.le_refl _) _).alloc (by simp) _).alloc (by simp; omega) _).alloc (by simp; omega) _
  have hsz : ((((w.alloc (.cells #[.int .u64 (wdI s 0), .int .u64 (wdI s 1), .int .u64 (wdI s 2), .int .u64 (wdI s 3)] 47)).alloc (.cells #[.int .u8 0] 5)).alloc (.cells #[.bool false] 4)).alloc (.cells (cset s) 47)).heap.size = w.heap.size + 4 := by simp
  obtain ⟨W0, hW0⟩ : ∃ W0, ((((w.alloc (.cells #[.int .u64 (wdI s 0), .int .u64 (wdI s 1), .int .u64 (wdI s 2), .int .u64 (wdI s 3)] 47)).alloc (.cells #[.int .u8 0] 5)).alloc (.cells #[.bool false] 4)).alloc (.cells (cset s) 47)) = W0 := ⟨_, rfl⟩
  rw [hW0] at bT k1 f1 k2 f2 hB0 hsz ⊢
  clear hW0 c1 c2
  refine wpIn_rangeFunc_ownG rfl h1 (gf := 172) (lb := #[.pointer (some ⟨w.heap.size + 1 + 1 + 1, 0, none⟩)]) rfl trivial (enters_of Tryz.func172 (by kernel_rfl) rfl)
    (bytes_stops (n - 1) (by omega) (w.heap.size + 1 + 1 + 1) s W0 bT (KpG.tab (KpG.below hB0 h00) hG)) kpG_t kpG_b (Below.refl _ _) (fun _ => rfl)
    (fun pre W => (pre = [] ∧ W.cell? ⟨w.heap.size + 1, 0, none⟩ = some (.int .u8 0) ∧ W.frozen? ⟨w.heap.size + 1, 0, none⟩ = false ∧ W.cell? ⟨w.heap.size + 1 + 1, 0, none⟩ = some (.bool false) ∧ W.frozen? ⟨w.heap.size + 1 + 1, 0, none⟩ = false) ∧ Below w.heap.size w W)
    (fun c pre W => (c = .ret ∧ ∃ x : Fin 256, pre = [x] ∧ W.cell? ⟨w.heap.size + 1, 0, none⟩ = some (.int .u8 ((x.val : Nat) : Int)) ∧ W.cell? ⟨w.heap.size + 1 + 1, 0, none⟩ = some (.bool true)) ∧ Below w.heap.size w W)
    (OwnFrom.and (Own.from (fun s A B row hs hg hr => ⟨hs.1, Go.cell_kept hs.2.1 hg hr, (frozen_kept hs.2.1 hg hr).trans hs.2.2.1, Go.cell_kept hs.2.2.2.1 hg hr, (frozen_kept hs.2.2.2.1 hg hr).trans hs.2.2.2.2⟩) _) (ownFrom_below (Nat.le_refl _) (by omega)))
    (fun c => OwnFrom.and (Own.from (fun s A B row hs hg hr => ⟨hs.1, hs.2.imp fun x h => ⟨h.1, Go.cell_kept h.2.1 hg hr, Go.cell_kept h.2.2 hg hr⟩⟩) _) (ownFrom_below (Nat.le_refl _) (by omega)))
    ⟨⟨rfl, k1, f1, k2, f2⟩, hB0⟩
    (fun x => { tmps := #[.agg #[.int .u64 (wdI s 0), .int .u64 (wdI s 1), .int .u64 (wdI s 2), .int .u64 (wdI s 3)], .pointer (some ⟨w.heap.size, 0, none⟩), .pointer (some ⟨w.heap.size + 1, 0, none⟩), .pointer (some ⟨w.heap.size + 1 + 1, 0, none⟩), .int .u8 ((x.val : Nat) : Int), .agg #[.int .u64 (wdI s 0), .int .u64 (wdI s 1), .int .u64 (wdI s 2), .int .u64 (wdI s 3)], .func (.func 172) #[] #[.pointer (some ⟨w.heap.size + 1 + 1 + 1, 0, none⟩)], .int .u8 ((x.val : Nat) : Int), undef], defers := [] }) ?assign ?body ?done ?stop
  case assign =>
    intro l x W K hK
    gi_wp2
    exact hK
  case body =>
    rintro l pre x W ⟨⟨rfl, p1, q1, p2, q2⟩, hB⟩ hlt
    gi_wp2
    exact ⟨((KeepsOthers.setCell _ _ _).trans (KeepsOthers.setCell _ _ _)).from _, ⟨rfl, x, rfl, set_else_l (set_same_l p1) (by omega), set_same_l (set_else_l p2 (by omega))⟩, (hB.setCell (p := ⟨w.heap.size + 1, 0, none⟩) (by simp) _).setCell (p := ⟨w.heap.size + 1 + 1, 0, none⟩) (by simp; omega) _⟩
  case done =>
    rintro D ys W hD hys ⟨⟨rfl, p1, q1, p2, q2⟩, hB⟩ hK
    have hys2 := Lib.hid (show leastV (bytesL s) = .tuple #[.int .u8 0, .bool false] by rw [← (show ([] : List (Fin 256)).map Fin.val = bytesL s from hys)]; rfl)
    gi_wp2
    have hK' := (KeepsOthers.setCell (W.setCell ⟨w.heap.size + 1, 0, none⟩ (.int .u8 0)) ⟨w.heap.size + 1 + 1, 0, none⟩ (.bool false)).same D _ ((KeepsOthers.setCell W ⟨w.heap.size + 1, 0, none⟩ (.int .u8 0)).same D _ hK rfl) rfl
    refine ⟨by simp, .inl ⟨_, _, rfl, run_takeDeferred hK', ?_⟩⟩
    have hc1 : ((W.setCell ⟨w.heap.size + 1, 0, none⟩ (.int .u8 0)).setCell ⟨w.heap.size + 1 + 1, 0, none⟩ (.bool false)).cell? ⟨w.heap.size + 1, 0, none⟩ = some (.int .u8 0) := by
      exact set_else_l (set_same_l p1) (by omega)
    have hc2 : ((W.setCell ⟨w.heap.size + 1, 0, none⟩ (.int .u8 0)).setCell ⟨w.heap.size + 1 + 1, 0, none⟩ (.bool false)).cell? ⟨w.heap.size + 1 + 1, 0, none⟩ = some (.bool false) := set_same_l (set_else_l p2 (by omega))
    have hc5 := Go.cell_kept hc1 (grownBy_putObj' _ D (.deferred none)) (fun r e => by cases e; exact ⟨_, hK', rfl⟩)
    have hc6 := Go.cell_kept hc2 (grownBy_putObj' _ D (.deferred none)) (fun r e => by cases e; exact ⟨_, hK', rfl⟩)
    refine ⟨.tuple #[.int .u8 0, .bool false], ?_, by rw [hys2.out], ((hB.setCell (p := ⟨w.heap.size + 1, 0, none⟩) (by simp) _).setCell (p := ⟨w.heap.size + 1 + 1, 0, none⟩) (by simp; omega) _).trans (belowK_b (w := w) (Nat.le_refl _) _ D _ _ (by omega) hK' rfl rfl)⟩
    simp [results, Tryz.f139, go_sem, hc5, hc6]
  case stop =>
    rintro D c pre W hD hpre ⟨⟨rfl, x, rfl, hr1, hr2⟩, hB⟩ hK
    have hb : ∃ t, bytesL s = x.val :: t := by
      obtain ⟨t, ht⟩ := (show [x].map Fin.val <+: bytesL s from hpre)
      exact ⟨t, ht.symm⟩
    have hys2 := Lib.hid (show leastV (bytesL s) = .tuple #[.int .u8 ((x.val : Nat) : Int), .bool true] by obtain ⟨t, ht⟩ := hb; rw [ht]; rfl)
    gi_wp2
    refine ⟨by simp, .inl ⟨_, _, rfl, run_takeDeferred hK, ?_⟩⟩
    have hc5 := Go.cell_kept hr1 (grownBy_putObj' _ D (.deferred none)) (fun r e => by cases e; exact ⟨_, hK, rfl⟩)
    have hc6 := Go.cell_kept hr2 (grownBy_putObj' _ D (.deferred none)) (fun r e => by cases e; exact ⟨_, hK, rfl⟩)
    refine ⟨.tuple #[.int .u8 ((x.val : Nat) : Int), .bool true], ?_, by rw [hys2.out], hB.trans (belowK_b (w := w) (Nat.le_refl _) W D _ _ (by omega) hK rfl rfl)⟩
    simp [results, Tryz.f139, go_sem, hc5, hc6]

theorem least_any (s : BS) (w : World) (hG : TabAt 1 Lib.deBruijn64tab w) : Calls Tryz.prog 139 #[vset s] w fun e W' => e = .returned (leastV (bytesL s)) ∧ Below w.heap.size w W' :=
  callsIn_wide.1 (least_in 6 (Nat.le_refl _) s w hG)
end Go.Proofs.YtodnlcbnbkkanaaGreatDoor
end
section
namespace Go.Proofs.YtodnlcbnbkkanaaGreatDoor
open Go Go.RowKit

def TRow (T : World → Nat → List UInt8 → Prop) (W : World) (a : Option Addr) (ts : List (List UInt8)) : Prop :=
  ∀ (i : Nat) (t : List UInt8), ts[i]? = some t → ∃ g off b, a = some ⟨g, off, none⟩ ∧ g < W.heap.size ∧ W.cell? ⟨g, off + i, none⟩ = some (.pointer (some ⟨b, 0, none⟩)) ∧ T W b t

structure Mode (lim : Nat) where
  T : Nat → World → Nat → List UInt8 → Prop
  below : ∀ {N W V b t}, T N W b t → Below W.heap.size W V → T N V b t
  lt : ∀ {N W b t}, T N W b t → b < W.heap.size
  leaf : ∀ {N W b t}, Leaf W b t → t.length ≤ 4096 → t.length ≤ lim → T N W b t
  kept : ∀ {N W V b t} {q : Option Nat}, T N W b t → W.grownBy V q → (∀ g, q = some g → ∃ e cs, Blk W g e cs ∧ e ≠ 192 ∧ (e = 133 → g < N)) → T N V b t
  cmp : ∀ (N a b : Nat) (s t : List UInt8) (w : World), T N w a s → T N w b t → s.length ≤ lim → t.length ≤ lim →
    Calls Tryz.prog 137 #[.pointer (some ⟨a, 0, none⟩), .pointer (some ⟨b, 0, none⟩)] w fun e w' => e = .returned (.int .i64 (cmpT s t)) ∧ Below w.heap.size w w'
  str : ∀ (N a : Nat) (t : List UInt8) (w : World), T N w a t → t.length ≤ lim → Calls Tryz.prog 87 #[.pointer (some ⟨a, 0, none⟩)] w fun e w' => e = .returned (.string (bs t)) ∧ Below w.heap.size w w'
  join : ∀ (N : Nat) (a : Option Addr) (c : Nat) (ts : List (List UInt8)) (w : World), N ≤ w.heap.size → TRow (T N) w a ts → ts.length ≤ 281474976710656 → ts.flatten.length ≤ lim →
    Calls Tryz.prog 141 #[.slice a ts.length c] w fun e w' => ∃ b, e = .returned (.pointer (some ⟨b, 0, none⟩)) ∧ T N w' b ts.flatten ∧ Below w.heap.size w w'

def whole4096 : Mode 4096 where
  T := fun _ W b t => Leaf W b t
  below := fun h hB => h.below hB
  lt := fun h => Blk.lt h
  leaf := fun h _ _ => h
  kept := fun {_ W V b t q} h hg hq => Leaf.kept h hg (by
    rintro rfl
    obtain ⟨e, cs, h1, h2, _⟩ := hq b rfl
    have h3 := (show Blk W b 192 _ from h).symm.trans h1
    simp at h3
    exact h2 h3.2.symm)
  cmp := fun _ a b s t w ha hb hs ht => compare_4096 a b s t w ha.txt hb.txt hs ht
  str := fun _ a t w ha ht => string_4096 a t w ha.txt ht
  join := fun _ a c ts w _ hr hn ht => join_leaves a c ts w (fun i t h => hr i t h) hn ht

def TextsAt (T : World → Nat → List UInt8 → Prop) (W : World) (tb : Nat) (ch : List (Option (List UInt8))) : Prop :=
  ∃ cs, Blk W tb 133 cs ∧ cs.size = ch.length ∧ ∀ (i : Nat) (o : Option (List UInt8)), ch[i]? = some o →
    (o = none ∧ cs[i]? = some (.pointer none)) ∨ (∃ t b, o = some t ∧ cs[i]? = some (.pointer (some ⟨b, 0, none⟩)) ∧ T W b t)
theorem TextsAt.below {T : World → Nat → List UInt8 → Prop} (hT : ∀ {W V b t}, T W b t → Below W.heap.size W V → T V b t) {W V : World} {tb : Nat} {ch : List (Option (List UInt8))} (h : TextsAt T W tb ch) (hB : Below W.heap.size W V) : TextsAt T V tb ch := by
  obtain ⟨cs, h1, h2, h3⟩ := h
  refine ⟨cs, h1.below hB h1.lt, h2, fun i o ho => ?_⟩
  rcases h3 i o ho with h | ⟨t, b, k1, k2, k3⟩
  · exact .inl h
  · exact .inr ⟨t, b, k1, k2, hT k3 hB⟩
theorem TextsAt.lt {T : World → Nat → List UInt8 → Prop} {W : World} {tb : Nat} {ch : List (Option (List UInt8))} (h : TextsAt T W tb ch) : tb < W.heap.size := by
  obtain ⟨cs, h1, _⟩ := h; exact h1.lt

def leastB (s : BS) : Nat := (bytesL s).headD 0
theorem leastB_lt (s : BS) : leastB s < 256 := by
  unfold leastB
  cases h : bytesL s with
  | nil => exact Nat.zero_lt_of_lt (by omega : 0 < 256)
  | cons x t => exact ((mem_bytesL s x).1 (by rw [h]; simp)).1
theorem leastV_form (s : BS) : ∃ ok : Bool, leastV (bytesL s) = .tuple #[.int .u8 (leastB s), .bool ok] := by
  unfold leastB
  cases bytesL s with
  | nil => exact ⟨false, rfl⟩
  | cons x t => exact ⟨true, rfl⟩
def partT (ch : List (Option (List UInt8))) (s : SymM) : List UInt8 :=
  if s.kind = 1 then ((ch[s.sort.toNat]?).getD none).getD [] else [UInt8.ofNat (leastB s.set)]
def partsT (ch : List (Option (List UInt8))) (l : List SymM) : List (List UInt8) := l.map (partT ch)
def ReadyP (ch : List (Option (List UInt8))) (l : List SymM) : Prop := ∀ s, s ∈ l → s.kind = 1 → ∃ (k : Nat) (t : List UInt8), s.sort = k ∧ ch[k]? = some (some t)

def PartsAt (T : World → Nat → List UInt8 → Prop) (w : World) (base : Nat) (W : World) (v : Value) (ts : List (List UInt8)) : Prop :=
  ∃ bl : List Nat, W.ownsRow base 133 1 v ts.length (bl.map fun b => .pointer (some ⟨b, 0, none⟩)) ∧ ∀ (i b : Nat) (t : List UInt8), bl[i]? = some b → ts[i]? = some t → T w b t ∨ (Leaf W b t ∧ t.length = 1)
theorem PartsAt.trow {T : World → Nat → List UInt8 → Prop} {w W : World} {base : Nat} {v : Value} {ts : List (List UInt8)} (h : PartsAt T w base W v ts) (hT : ∀ b t, T w b t → T W b t) (hL : ∀ b t, Leaf W b t → t.length = 1 → T W b t) :
    ∃ (a : Option Addr) (c : Nat), v = .slice a ts.length c ∧ TRow T W a ts := by
  obtain ⟨bl, hown, hb⟩ := h
  have hlen := hown.1
  rw [List.length_map, Nat.mul_one] at hlen
  rcases hown.2 with ⟨rfl, h0⟩ | ⟨g, cap, cur, rfl, h1, h2, h3, h4, h5, h6⟩
  · refine ⟨none, 0, by rw [h0], fun i t ht => ?_⟩
    rw [List.length_eq_zero_iff.1 h0] at ht; simp at ht
  · refine ⟨some ⟨g, 0, none⟩, cap, rfl, fun i t ht => ?_⟩
    have hi := (List.getElem?_eq_some_iff.1 ht).1
    obtain ⟨b, hbi⟩ : ∃ b, bl[i]? = some b := ⟨_, List.getElem?_eq_getElem (by omega)⟩
    have hT' : T W b t := by
      rcases hb i b t hbi ht with h | ⟨h, hl⟩
      · exact hT b t h
      · exact hL b t h hl
    refine ⟨g, 0, b, rfl, Blk.lt (show Blk W g 133 cur from h2), ?_, hT'⟩
    rw [Nat.zero_add, Blk.cell (show Blk W g 133 cur from h2) i]
    have h7 := congrArg (fun l => l[i]?) h6
    simp only [List.getElem?_map, hbi, Option.map_some] at h7
    rw [List.getElem?_take, if_pos (by omega)] at h7
    simpa using h7
end Go.Proofs.YtodnlcbnbkkanaaGreatDoor
end
section
namespace Go.Proofs.YtodnlcbnbkkanaaGreatDoor
open Go Go.RowKit

theorem parts_app {T : World → Nat → List UInt8 → Prop} {w W V : World} {base : Nat} {v v' : Value} {ts : List (List UInt8)} {bl : List Nat} {b : Nat} {t : List UInt8}
    (hown : W.ownsRow base 133 1 v ts.length (bl.map fun b => .pointer (some ⟨b, 0, none⟩))) (hb : ∀ (i b : Nat) (t : List UInt8), bl[i]? = some b → ts[i]? = some t → T w b t ∨ (Leaf W b t ∧ t.length = 1))
    (own' : V.ownsRow base 133 1 v' (ts.length + 1) ((bl.map fun b => .pointer (some ⟨b, 0, none⟩)) ++ [.pointer (some ⟨b, 0, none⟩)])) (hg : W.grownBy V v.ownBlock) (ht : T w b t ∨ (Leaf V b t ∧ t.length = 1)) :
    PartsAt T w base V v' (ts ++ [t]) := by
  have hlen := hown.1
  rw [List.length_map, Nat.mul_one] at hlen
  refine ⟨bl ++ [b], by simpa using own', fun i c u hc hu => ?_⟩
  by_cases hi : i < ts.length
  · rw [List.getElem?_append_left (by omega)] at hc
    rw [List.getElem?_append_left hi] at hu
    rcases hb i c u hc hu with h | ⟨h, h1⟩
    · exact .inl h
    · refine .inr ⟨h.kept hg ?_, h1⟩
      rcases hown.2 with ⟨rfl, _⟩ | ⟨g, cap, cur, rfl, _, h2, _⟩
      · simp [Value.ownBlock]
      · simp only [Value.ownBlock, ne_eq, Option.some.injEq]
        rintro rfl
        have h3 := (show Blk W c 192 _ from h).symm.trans h2
        simp at h3
  · rw [List.getElem?_append_right (by omega)] at hc hu
    obtain rfl : i = ts.length := by
      rcases Nat.lt_or_ge i (ts.length + 1) with h | h
      · omega
      · rw [List.getElem?_eq_none (by simp; omega)] at hu; cases hu
    simp [hlen] at hc
    simp at hu
    subst hc hu
    exact ht
theorem PartsAt.below {T : World → Nat → List UInt8 → Prop} {w W V : World} {base : Nat} {v : Value} {ts : List (List UInt8)} (h : PartsAt T w base W v ts) (hB : Below W.heap.size W V) : PartsAt T w base V v ts := by
  obtain ⟨bl, h1, h2⟩ := h
  refine ⟨bl, own_below h1 hB (Nat.le_refl _), fun i b t hb ht => ?_⟩
  rcases h2 i b t hb ht with h | ⟨h, hl⟩
  · exact .inl h
  · exact .inr ⟨h.below hB, hl⟩

set_option maxRecDepth 100000 in
set_option maxHeartbeats 8000000 in
theorem textOf_any {lim : Nat} (M : Mode lim) (N cb tb : Nat) (ch : List (Option (List UInt8))) (wv ov : Value) (x : ProdM) (w : World) (hcb : Blk w cb 132 #[.slice (some ⟨tb, 0, none⟩) ch.length ch.length, wv, ov]) (htb : TextsAt (M.T N) w tb ch)
    (hN : N ≤ w.heap.size) (hG : TabAt 1 Lib.deBruijn64tab w) (hx : ProdIn w x) (hr : x.right.length ≤ 30) (hch : ch.length ≤ 1000) (hready : ReadyP ch x.right) (hlen : (partsT ch x.right).flatten.length ≤ lim) (h1 : 1 ≤ lim) :
    Calls Tryz.prog 115 #[.pointer (some ⟨cb, 0, none⟩), prodV x] w fun e w' => ∃ b, e = .returned (.pointer (some ⟨b, 0, none⟩)) ∧ M.T N w' b (partsT ch x.right).flatten ∧ Below w.heap.size w w' := by
  obtain ⟨i133, ti, tz, tis, tb'⟩ := info_parts Tryz.info129e
  have HCb := Lib.hid hcb
  have HTb := Lib.hid htb
  have HN := Lib.hid hN
  have HG := Lib.hid hG
  have HRow : Hid (RowSym w x.ra x.right) := Lib.hid hx
  have HRd := Lib.hid hready
  have HLn := Lib.hid hlen
  have lcb := hcb.lt
  have ltb := htb.lt
  obtain ⟨ra, hra⟩ : ∃ ra, ra = x.ra := ⟨_, rfl⟩
  obtain ⟨n, hn⟩ : ∃ n, n = x.right.length := ⟨_, rfl⟩
  have HNn := Lib.hid hn
  rw [← hra] at HRow
  rw [← hn] at hr
  obtain ⟨m, hm⟩ : ∃ m, m = ch.length := ⟨_, rfl⟩
  have HM := Lib.hid hm
  rw [← hm] at HCb hch
  have hB1 : Hid (Below w.heap.size w (w.alloc (.cells (prodC x) 65))) := (Below.refl _ _).alloc (Nat.le_refl _) _
  have HE : Hid (prodC x = #[.int .i64 x.left, .slice ra n x.rc, .string x.cons, .int .i64 x.role, .bool x.prefer, .bool x.avoid, .int .i64 x.frm]) := Lib.hid (by rw [hra, hn]; rfl)
  have HP0 : Hid (PartsAt (M.T N) w (w.heap.size + 1) (w.alloc (.cells (prodC x) 65)) (.slice none 0 0) (partsT ch (x.right.take 0))) := Lib.hid ⟨[], ⟨rfl, .inl ⟨rfl, rfl⟩⟩, fun i b t h => by simp at h⟩
  unfold prodV
  rw [HE.out] at hB1 HP0 ⊢
  clear hcb htb hN hG hx hready hlen hra hn hm HE
  go_enter Tryz.func115, Tryz.ntmps115
  go_wp2
  go_loopw [5, 13] (fun v5 vj wr => ∃ (j : Nat), vj = .int .i64 j ∧ j ≤ n ∧ Hid (Below w.heap.size w wr) ∧ w.heap.size + 1 ≤ wr.heap.size ∧ Hid (PartsAt (M.T N) w (w.heap.size + 1) wr v5 (partsT ch (x.right.take j)))) (fun _ vj _ => n - (intOf vj).toNat)
  case atStart => exact ⟨0, rfl, Nat.zero_le _, hB1, by simp, HP0⟩
  case round =>
    clear hB1 HP0
    obtain ⟨j, rfl, hj, HB, hsz, HP⟩ := hrel
    by_cases hlt : j < n
    · obtain ⟨s, hs⟩ : ∃ s, x.right[j]? = some s := ⟨_, List.getElem?_eq_getElem (by rw [← HNn.out]; exact hlt)⟩
      obtain ⟨b1, o1, rfl, hb1, hc1, _⟩ := HRow.out j s hs
      have hc1 := hc1.below HB.out hb1
      have hb1' := Nat.lt_of_lt_of_le hb1 HB.out.size
      obtain ⟨s0, s1, s2, s3, s4, s5⟩ := Sym_at hc1
      have z1 : (j : Int) < (n : Int) := by omega
      have z0 : (0 : Int) ≤ (j : Int) := by omega
      have HSk := Lib.hid (HRd.out s (List.mem_of_getElem? hs))
      have HTk : Hid (partsT ch (x.right.take (j + 1)) = partsT ch (x.right.take j) ++ [partT ch s]) := Lib.hid (by unfold partsT; rw [take_snoc x.right j s hs, List.map_append]; rfl)
      have hBn : Below wr.heap.size wr (wr.alloc (.cells (symC s) 60)) := (Below.refl _ _).alloc (Nat.le_refl _) _
      have HBn : Hid (Below w.heap.size w (wr.alloc (.cells (symC s) 60))) := Lib.hid (HB.out.alloc HB.out.size _)
      have HPn := Lib.hid (HP.out.below hBn)
      obtain ⟨ts, hts⟩ : ∃ ts, ts = partsT ch (x.right.take j) := ⟨_, rfl⟩
      have Hlts : Hid (ts.length = j) := Lib.hid (by rw [hts]; unfold partsT; rw [List.length_map, List.length_take, ← HNn.out]; omega)
      have HTs := Lib.hid hts
      rw [← hts] at HPn HTk
      have KS := Lib.hid (Blk.new wr 60 (symC s))
      clear hs hc1 HP hts hBn
      obtain ⟨sk, ss, so⟩ := s
      unfold symC at HBn HPn KS
      dsimp only at *
      have hcb' : Blk wr cb 132 #[.slice (some ⟨tb, 0, none⟩) m m, wv, ov] := HCb.out.below HB.out lcb
      have c0 := hcb'.cell 0
      have lc := hcb'.lt
      clear hcb'
      cases k1 : (sk == 1) with
      | true =>
        obtain rfl : sk = 1 := by simpa using k1
        clear k1
        obtain ⟨k, t, rfl, hk⟩ := HSk.out rfl
        obtain ⟨cs, ht1, ht2, ht3⟩ := HTb.out
        obtain ⟨b, hcsb, hTb⟩ : ∃ b, cs[k]? = some (.pointer (some ⟨b, 0, none⟩)) ∧ M.T N w b t := by
          rcases ht3 k _ hk with ⟨h, _⟩ | ⟨t', b, h1, h2, h3⟩
          · cases h
          · cases h1; exact ⟨b, h2, h3⟩
        have htw := ht1.below HB.out ltb
        have t0 := (htw.cell k).trans hcsb
        have lt0 := htw.lt
        have hkm : k < m := by rw [HM.out]; exact (List.getElem?_eq_some_iff.1 hk).1
        have kz1 : (k : Int) < (m : Int) := by omega
        have kz0 : (0 : Int) ≤ (k : Int) := by omega
        have HTbb := Lib.hid hTb
        clear hTb ht1 ht2 ht3 hcsb htw HSk
        obtain ⟨W, hW⟩ : ∃ W, W = wr.alloc (.cells #[.int .i64 1, .int .u64 (wdI ss 0), .int .u64 (wdI ss 1), .int .u64 (wdI ss 2), .int .u64 (wdI ss 3), .int .i64 k] 60) := ⟨_, rfl⟩
        have HW := Lib.hid hW
        rw [← hW] at HBn HPn KS
        have hTW : Hid (partsT ch (x.right.take (j + 1)) = ts ++ [t]) := Lib.hid (by
          rw [HTk.out]; unfold partT; simp only [if_true, Int.toNat_natCast, hk, Option.getD_some])
        clear hW HTk hk
        have hPV := HPn.out.below (V := (W.alloc (.cells #[.pointer (some ⟨b, 0, none⟩)] 133)).drew) ((Below.refl _ _).alloc (Nat.le_refl _) _).drew
        have hBV : Below w.heap.size w (W.alloc (.cells #[.pointer (some ⟨b, 0, none⟩)] 133)).drew := (HBn.out.alloc HBn.out.size _).drew
        have hCn : ∀ (j : Nat) (v : Value), [Value.pointer (some ⟨b, 0, none⟩)][j]? = some v → (W.alloc (.cells #[.pointer (some ⟨b, 0, none⟩)] 133)).drew.cell? ((⟨wr.heap.size + 1, 0, none⟩ : Addr).add j) = some v := by
          have h := cells_new W #[.pointer (some ⟨b, 0, none⟩)] 133
          rw [show W.heap.size = wr.heap.size + 1 by rw [HW.out]; simp] at h
          exact h
        rw [HW.out] at hPV hBV hCn
        obtain ⟨bl, hown, hbl⟩ := hPV
        have hown2 := hown
        rw [Hlts.out] at hown
        have HBV := Lib.hid hBV
        have HCn := Lib.hid hCn
        have HO := Lib.hid hown
        have HO2 := Lib.hid hown2
        have HBl := Lib.hid hbl
        clear hBV hCn hown hown2 hbl HBn HPn KS HW
        go_wp2
        go_region_law (refine step_append_lies _ rfl (.tmp 20) (.tmp 29) 129 rfl (w.heap.size + 1) 133 i133 _ 1 8 Tryz.underlying129 ti tz tis tb' rfl (by omega) u5 j (bl.map fun b => .pointer (some ⟨b, 0, none⟩)) (by simp [Act.eval, Act.put]) HO.out ⟨wr.heap.size + 1, 0, none⟩ 1 1 [.pointer (some ⟨b, 0, none⟩)] (by simp [Act.eval, Act.put]) rfl HCn.out (fun x hx => by simp at hx; subst hx; rfl) (by omega) (by unfold maxLen; omega) (by omega) (by simp; omega) _ rfl ?_; intro G cap w4 hown4 hgr hGe hGl)
        all_goals (
          have HB4 : Hid (Below w.heap.size w w4) := Lib.hid (HBV.out.grown hgr HBV.out.size (fun g e => by
            rcases HO.out.2 with ⟨rfl, _⟩ | ⟨g', cap', cur, rfl, h1, h2, _⟩
            · simp [Value.ownBlock] at e
            · simp [Value.ownBlock] at e; omega))
          have hsz4 : w.heap.size + 1 ≤ w4.heap.size := by have := hgr.size; simp at this; omega
          have HZ : Hid (PartsAt (M.T N) w (w.heap.size + 1) w4 (.slice (some ⟨G, 0, none⟩) (j + 1) cap) (partsT ch (x.right.take (j + 1)))) := Lib.hid (by
            rw [hTW.out]
            exact parts_app HO2.out HBl.out (by rw [Hlts.out]; exact hown4) hgr (.inl HTbb.out))
          clear hown4 hgr HBV HCn HO HO2 HBl
          go_wp2
          go_roundw
          case rel => exact ⟨j + 1, by go_num, by omega, HB4, hsz4, HZ⟩
          case measure => simp [intOf]; omega)
      | false =>
        have hk1 : ¬ sk = 1 := by simpa using k1
        obtain ⟨ok, hok⟩ := leastV_form ss
        obtain ⟨W, hW⟩ : ∃ W, W = wr.alloc (.cells #[.int .i64 sk, .int .u64 (wdI ss 0), .int .u64 (wdI ss 1), .int .u64 (wdI ss 2), .int .u64 (wdI ss 3), .int .i64 so] 60) := ⟨_, rfl⟩
        have HLe := Lib.hid (least_any ss W (KpG.tab (KpG.below (by rw [hW]; exact HBn.out) (by have := lt_of_cell (HG.out 0 (by decide)); exact this)) HG.out))
        rw [hok] at HLe
        unfold vset at HLe
        rw [hW] at HLe
        have hlb := leastB_lt ss
        have hTW : Hid (partsT ch (x.right.take (j + 1)) = ts ++ [[UInt8.ofNat (leastB ss)]]) := Lib.hid (by
          rw [HTk.out]; unfold partT; simp only [hk1, if_false])
        obtain ⟨lb, hlbe⟩ : ∃ lb, lb = leastB ss := ⟨_, rfl⟩
        rw [← hlbe] at HLe hlb hTW
        have HSz := Lib.hid (show (wr.alloc (.cells #[.int .i64 sk, .int .u64 (wdI ss 0), .int .u64 (wdI ss 1), .int .u64 (wdI ss 2), .int .u64 (wdI ss 3), .int .i64 so] 60)).heap.size = wr.heap.size + 1 by simp)
        clear hW HTk HSk hlbe hok c0 lc HTb KS
        go_wp2_with fail
        refine HLe.out.mono ?_
        rintro e w3 ⟨rfl, hB3⟩
        have HB3 := Lib.hid (HBn.out.trans (hB3.mono HBn.out.size))
        have HP3 := Lib.hid (HPn.out.below hB3)
        have hsz3 : w.heap.size + 1 ≤ w3.heap.size := by have := hB3.size; have := HSz.out; omega
        clear hB3 HLe HPn HBn HSz hb1' s0 s1 s2 s3 s4 s5
        have hcv : (convert 57 9 (.slice (some ⟨w3.heap.size, 0, none⟩) 1 1)).run Tryz.prog (w3.alloc (.cells #[.int .u8 lb] 5)) = .ok (.string (bs [UInt8.ofNat lb])) (w3.alloc (.cells #[.int .u8 lb] 5)) :=
          run_convert_bytes_arg _ 57 5 Tryz.underlying57 Tryz.underlying5 w3.heap.size 0 1 1 [(lb : Int)] rfl (fun i hi => by
            obtain rfl : i = 0 := by omega
            exact (Blk.new w3 5 #[.int .u8 lb]).cell 0) 9 Tryz.underlying9
        have HWh := Lib.hid (whole_any [UInt8.ofNat lb] (w3.alloc (.cells #[.int .u8 lb] 5)) (by simp))
        have hBa : Below w3.heap.size w3 (w3.alloc (.cells #[.int .u8 lb] 5)) := (Below.refl _ _).alloc (Nat.le_refl _) _
        have HBa := Lib.hid hBa
        clear hBa
        go_wp2_with fail
        refine HWh.out.mono ?_
        rintro e w4 ⟨rfl, hw4⟩
        have hB34 : Below w3.heap.size w3 w4 := by rw [hw4]; exact HBa.out.alloc HBa.out.size _
        have HLf : Hid (Leaf w4 (w3.heap.size + 1) [UInt8.ofNat lb]) := Lib.hid (by
          have := Blk.new (w3.alloc (.cells #[.int .u8 lb] 5)) 192 #[.int .i64 ([UInt8.ofNat lb] : List UInt8).length, .string (bs [UInt8.ofNat lb]), .slice none 0 0]
          rw [World.size_alloc] at this
          rw [hw4]
          exact this)
        have hs4 := Lib.hid (show w4.heap.size = w3.heap.size + 2 by rw [hw4]; simp)
        have hb4 : w3.heap.size + 1 < w4.heap.size := by rw [hs4.out]; omega
        have HP4 := Lib.hid (HP3.out.below hB34)
        have HB4 := Lib.hid (HB3.out.trans (hB34.mono HB3.out.size))
        clear hB34 hw4 HWh HBa hcv HP3 HB3
        obtain ⟨bl, hown, hbl⟩ := (HP4.out.below (V := w4.alloc (.cells #[.pointer (some ⟨w3.heap.size + 1, 0, none⟩)] 133)) ((Below.refl _ _).alloc (Nat.le_refl _) _))
        have hown2 := hown
        rw [Hlts.out] at hown
        have HCn := Lib.hid (cells_new w4 #[.pointer (some ⟨w3.heap.size + 1, 0, none⟩)] 133)
        have HB5 := Lib.hid (HB4.out.alloc HB4.out.size (.cells #[.pointer (some ⟨w3.heap.size + 1, 0, none⟩)] 133))
        go_wp2_with (at_builtin; (refine wpList_append_lies _ rfl (.tmp 37) (.tmp 42) 129 rfl (w.heap.size + 1) 133 i133 _ 1 8 Tryz.underlying129 ti tz tis tb' rfl (by omega) u5 j (bl.map fun b => .pointer (some ⟨b, 0, none⟩)) rfl hown ⟨w4.heap.size, 0, none⟩ 1 1 [.pointer (some ⟨w3.heap.size + 1, 0, none⟩)] rfl rfl HCn.out (fun x hx => by simp at hx; subst hx; rfl) (by omega) (by unfold maxLen; omega) (by omega) (by simp; omega) _ rfl ?_))
        intro G cap w6 hown6 hgr hGe hGl
        have HB6 : Hid (Below w.heap.size w w6) := Lib.hid (HB5.out.grown hgr HB5.out.size (fun g e => by
          rcases hown.2 with ⟨rfl, _⟩ | ⟨g', cap', cur, rfl, h1, h2, _⟩
          · simp [Value.ownBlock] at e
          · simp [Value.ownBlock] at e; omega))
        have hsz6 : w.heap.size + 1 ≤ w6.heap.size := by have := hgr.size; simp at this; omega
        have HZ : Hid (PartsAt (M.T N) w (w.heap.size + 1) w6 (.slice (some ⟨G, 0, none⟩) (j + 1) cap) (partsT ch (x.right.take (j + 1)))) := Lib.hid (by
          rw [hTW.out]
          refine parts_app hown2 hbl (by rw [Hlts.out]; exact hown6) hgr (.inr ⟨?_, rfl⟩)
          refine (HLf.out.below ((Below.refl _ _).alloc (Nat.le_refl _) _)).kept hgr ?_
          rcases hown.2 with ⟨rfl, _⟩ | ⟨g, cap, cur, rfl, _, h2, _⟩
          · simp [Value.ownBlock]
          · simp only [Value.ownBlock, ne_eq, Option.some.injEq]
            rintro rfl
            have h3 := (show Blk _ (w3.heap.size + 1) 192 _ from HLf.out.below (V := w4.alloc (.cells #[.pointer (some ⟨w3.heap.size + 1, 0, none⟩)] 133)) ((Below.refl _ _).alloc (Nat.le_refl _) _)).symm.trans h2
            simp at h3)
        clear hown hown2 hown6 hbl hgr HB5 HCn HP4 HB4 HLf
        go_wp2
        go_roundw
        case rel => exact ⟨j + 1, by go_num, by omega, HB6, hsz6, HZ⟩
        case measure => simp [intOf]; omega
    · obtain rfl : j = n := by omega
      have e : x.right.take j = x.right := List.take_of_length_le (by have := HNn.out; omega)
      rw [e] at HP
      obtain ⟨a, c, rfl, hrow⟩ := HP.out.trow (fun b t h => M.below h HB.out) (fun b t h hl => M.leaf h (by omega) (by omega))
      have hl : (partsT ch x.right).length = j := by unfold partsT; rw [List.length_map, ← HNn.out]
      have HJ := Lib.hid (M.join N a c (partsT ch x.right) wr (Nat.le_trans HN.out HB.out.size) hrow (by omega) HLn.out)
      rw [hl] at HJ ⊢
      clear HP hrow hl e
      go_wp2_with fail
      refine HJ.out.mono ?_
      rintro e w3 ⟨b, rfl, hT, hB3⟩
      have HT := Lib.hid hT
      have HB3 := Lib.hid (HB.out.trans (hB3.mono HB.out.size))
      clear hT hB3 HJ
      go_wp2
      go_ret
      exact ⟨b, rfl, HT.out, HB3.out⟩
end Go.Proofs.YtodnlcbnbkkanaaGreatDoor
end
