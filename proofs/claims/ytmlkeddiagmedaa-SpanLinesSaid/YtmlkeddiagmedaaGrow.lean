import Derived.Test.YtmlkeddiagmedaaApp
import Derived.Lib.Builder
import Derived.Lib.UnsafeStr
import Derived.Lib.AppendStr
import Derived.RegionTactic
import Derived.BigRegion
namespace Go.Proofs.Ytmlkeddiagmedaa
open Go.RowKit

/-- A grower in a block of its own, from B on: the builder's two cells, the old text, how far it has come; the bytes grown are l. -/
def GrowAt (B b : Nat) (p : Value) (l : List UInt8) (old : ByteArray) (done : Int) (w : World) : Prop :=
  B ≤ b ∧ ∃ v, Blk w b 70 #[p, v, .string old, .int .i64 done] ∧ w.ownsRow B 5 1 v l.length (Lib.byteCells l) ∧ v.ownBlock ≠ some b ∧ (v = .slice none 0 0 ↔ l = [])

def selfP (b : Nat) : Value := .pointer (some ⟨b, 0, none⟩)

set_option maxHeartbeats 1000000 in
set_option maxRecDepth 100000 in
theorem copyCheck_used (b : Nat) (w : World) (h0 : w.cell? ⟨b, 0, none⟩ = some (.pointer (some ⟨b, 0, none⟩))) :
    Calls Try.prog 54 #[.pointer (some ⟨b, 0, none⟩)] w fun e w' => e = .returned (.tuple #[]) ∧ w = w' := by
  obtain ⟨j, hj, _⟩ := Option.map_eq_some_iff.1 (show (Try.prog.info? 68).map (·.size) = some 2 by kernel_rfl)
  go_enter Try.func54, Try.ntmps54
  go_wp2
  rw [Lib.run_neq_ptr_same w _ Try.underlying65 hj]
  go_wp2
  go_end0
  exact ⟨rfl, rfl⟩

set_option maxHeartbeats 1000000 in
set_option maxRecDepth 100000 in
theorem copyCheck_fresh (b : Nat) (w : World) (h0 : w.cell? ⟨b, 0, none⟩ = some (.pointer none)) (hsh : w.shape? b = some (70, 4)) (hfz : w.frozen? ⟨b, 0, none⟩ = false) :
    Calls Try.prog 54 #[.pointer (some ⟨b, 0, none⟩)] w fun e w' => e = .returned (.tuple #[]) ∧ w' = w.setCell ⟨b, 0, none⟩ (.pointer (some ⟨b, 0, none⟩)) := by
  obtain ⟨j, hj, hjs⟩ := Option.map_eq_some_iff.1 (show (Try.prog.info? 68).map (·.size) = some 2 by kernel_rfl)
  go_enter Try.func54, Try.ntmps54
  go_wp2
  rw [Lib.run_to_unsafe w ⟨b, 0, none⟩ Try.underlying65 Try.underlying101 hj (by rw [hjs]; decide) hsh (Nat.zero_lt_succ 3)]
  simp only [Result.andThen]
  rw [Oper.upon_value]
  go_wp2
  rw [run_callFunc_extern Try.func67 (by kernel_rfl) (by kernel_rfl) (by kernel_rfl) (e := Extern.AbiNoEscape.same) (by kernel_rfl)]
  rw [Lib.run_noEscape]
  simp only [Result.andThen]
  rw [Oper.upon_value]
  go_wp2
  rw [Lib.run_from_unsafe w ⟨b, 0, none⟩ Try.underlying101 Try.underlying65 hj hsh (by kernel_rfl)]
  simp only [Result.andThen]
  rw [Oper.upon_value]
  go_wp2
  go_end0
  exact ⟨rfl, rfl⟩

theorem GrowAt.shape {B b : Nat} {p : Value} {l : List UInt8} {old : ByteArray} {done : Int} {w : World} (h : GrowAt B b p l old done w) : w.shape? b = some (70, 4) := by
  obtain ⟨_, v, hb, _⟩ := h
  unfold World.shape?
  simp only [show w.heap[b]? = _ from hb]
  rfl

theorem grownBy_setI (W : World) (b i : Nat) (v : Value) : W.grownBy (W.setCell ⟨b, i, none⟩ v) (some b) :=
  ⟨rfl, rfl, rfl, (KeepsWalks.setCell W _ v).size, fun k _ hk => Below.heap_setCell _ _ _ k (fun e => hk (by rw [e]))⟩

theorem ownsRow_other {w : World} {B e size n b : Nat} {v : Value} {xs : List Value} (h : w.ownsRow B e size v n xs) (hne : v.ownBlock ≠ some b) (i : Nat) (u : Value) : (w.setCell ⟨b, i, none⟩ u).ownsRow B e size v n xs :=
  h.kept (grownBy_setI w b i u) (by right; exact hne)

/-- Whatever block but b that holds no bytes lies as it lay. -/
def KeptT (b : Nat) (w w' : World) : Prop := ∀ k t cs, k ≠ b → t ≠ 5 → Blk w k t cs → Blk w' k t cs

theorem copyCheck_any (B b : Nat) (p : Value) (hp : p = .pointer none ∨ p = selfP b) (l : List UInt8) (old : ByteArray) (done : Int) (w : World) (h : GrowAt B b p l old done w) :
    Calls Try.prog 54 #[.pointer (some ⟨b, 0, none⟩)] w fun e w' => e = .returned (.tuple #[]) ∧ GrowAt B b (selfP b) l old done w' ∧ Below B w w' ∧ KeptT b w w' := by
  have hsh := h.shape
  obtain ⟨hBb, v, hb, hown, hne, hnil⟩ := h
  rcases hp with rfl | rfl
  · refine (copyCheck_fresh b w (hb.cell 0) hsh (hb.frozen 0)).mono ?_
    rintro e w' ⟨rfl, rfl⟩
    exact ⟨rfl, ⟨hBb, v, hb.set 0 _, ownsRow_other hown hne 0 _, hne, hnil⟩, (Below.refl B w).setCell (p := ⟨b, 0, none⟩) hBb _, fun k t cs hk _ h => h.other (a := ⟨b, 0, none⟩) hk _⟩
  · refine (copyCheck_used b w (hb.cell 0)).mono ?_
    rintro e w' ⟨rfl, rfl⟩
    exact ⟨rfl, ⟨hBb, v, hb, hown, hne, hnil⟩, Below.refl _ _, fun k t cs _ _ h => h⟩

theorem infoByte : (Try.prog.info? 5).map (fun i => (i.zero, i.size, i.bytes)) = some (some (.int .u8 0), 1, 1) := by kernel_rfl

set_option maxHeartbeats 2000000 in
set_option maxRecDepth 100000 in
theorem write_any (B b : Nat) (p : Value) (hp : p = .pointer none ∨ p = selfP b) (l : List UInt8) (old : ByteArray) (done : Int) (s : ByteArray) (w : World) (h : GrowAt B b p l old done w) (hlen : l.length + s.size ≤ 140737488355328) (hBw : B ≤ w.heap.size) :
    Calls Try.prog 42 #[.pointer (some ⟨b, 0, none⟩), .string s] w fun e w' => e = .returned (.tuple #[.int .i64 s.size, .nilIface]) ∧ GrowAt B b (selfP b) (l ++ s.data.toList) old done w' ∧ Below B w w' ∧ KeptT b w w' := by
  obtain ⟨i0, hi, hz0, hz1, hz2⟩ := info_parts infoByte
  have HC := Lib.hid (copyCheck_any B b p hp l old done w h)
  clear h hp
  go_enter Try.func42, Try.ntmps42
  go_wp2_with fail
  refine HC.out.mono ?_
  rintro e w1 ⟨rfl, ⟨hBb, v, hb, hown, hne, hnil⟩, hb1, hk1⟩
  have Hk1 := Lib.hid hk1
  clear hk1
  have c0 : w1.cell? ⟨b, 0, none⟩ = some (.pointer (some ⟨b, 0, none⟩)) := hb.cell 0
  have c1 : w1.cell? ⟨b, 1, none⟩ = some v := hb.cell 1
  have Hnil := Lib.hid hnil
  clear hnil
  go_wp2_with (at_builtin; refine Lib.wpList_append_own_string _ rfl _ _ 66 9 rfl B 5 i0 Try.underlying66 Try.underlying9 hi hz0 hz1 hz2 _ _ _ rfl hown s rfl ?c3 ?c4 ?c5 ?_)
  case c3 => unfold maxLen; omega
  case c4 => omega
  case c5 => have := hb1.size; omega
  intro v' w2 hown' hgrow hn2
  have hb2 : Blk w2 b 70 #[selfP b, v, .string old, .int .i64 done] := hb.kept hgrow (fun e => hne e.symm)
  have d0 : w2.cell? ⟨b, 0, none⟩ = some (.pointer (some ⟨b, 0, none⟩)) := hb2.cell 0
  have d1 : w2.cell? ⟨b, 1, none⟩ = some v := hb2.cell 1
  have f1 : w2.frozen? ⟨b, 1, none⟩ = false := hb2.frozen 1
  have Hn2 := Lib.hid hn2
  clear hn2
  obtain ⟨ao, n', cap, rfl⟩ : ∃ ao n' cap, v' = .slice ao n' cap := by
    rcases hown'.2 with ⟨hv, _⟩ | ⟨g, cap, cur, hv, _⟩
    · exact ⟨_, _, _, hv⟩
    · exact ⟨_, _, _, hv⟩
  have hne' : (Value.slice ao n' cap).ownBlock ≠ some b := by
    intro e
    obtain ⟨_, ⟨hv, _⟩ | ⟨g, cap', cur, hv, _, hg, _⟩⟩ := hown'
    · cases hv; simp [Value.ownBlock] at e
    · cases hv
      simp [Value.ownBlock] at e
      subst e
      rw [show w2.heap[g]? = _ from hb2] at hg
      cases hg
  go_wp2
  go_ret2
  refine ⟨rfl, ⟨hBb, _, hb2.set 1 _, ?_, hne', ?_⟩, ?_, ?_⟩
  · have : w2.ownsRow B 5 1 (.slice ao n' cap) (l ++ s.data.toList).length (Lib.byteCells (l ++ s.data.toList)) := by
      have e1 : (l ++ s.data.toList).length = l.length + s.size := by simp
      rw [e1, Lib.byteCells_append, ← Lib.strCells_eq]; exact hown'
    exact ownsRow_other this hne' 1 _
  · rw [Hn2.out, Hnil.out]
    constructor
    · rintro ⟨rfl, h0⟩
      have : s.data.toList.length = 0 := by simpa using h0
      rw [List.length_eq_zero_iff.1 this]; rfl
    · intro h0
      obtain ⟨h1, h2⟩ := List.append_eq_nil_iff.1 h0
      refine ⟨h1, ?_⟩
      have : s.data.toList.length = 0 := by rw [h2]; rfl
      simpa using this
  · exact (hb1.grown hgrow (by have := hb1.size; omega) (fun k hk => (hown.lt k hk).1)).setCell (p := ⟨b, 1, none⟩) hBb _
  · intro k t cs hk ht h
    have h1 := Hk1.out k t cs hk ht h
    refine Blk.other (h1.kept hgrow ?_) (a := ⟨b, 1, none⟩) hk _
    intro e
    rcases hown.2 with ⟨hv, _⟩ | ⟨g, cap', cur, hv, _, hg, _⟩
    · rw [hv] at e; cases e
    · rw [hv] at e
      obtain rfl : k = g := by simpa [Value.ownBlock] using e
      rw [show w1.heap[k]? = _ from h1] at hg
      cases hg
      exact ht rfl

end Go.Proofs.Ytmlkeddiagmedaa
