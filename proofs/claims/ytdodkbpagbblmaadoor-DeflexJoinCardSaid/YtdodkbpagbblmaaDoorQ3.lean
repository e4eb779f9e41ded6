import Derived.Deep.DeepCutAuto
import Derived.Deep.RegionHeld3
import Derived.Deep.QuietTactic
import Derived.BigQuiet
import Derived.WalkLawsBesides
import Derived.WalkSpells
import Derived.Test.YtdodkbpagbblmaaDoorQ2
namespace Go.Proofs.YtdodkbpagbblmaaDoor
open Go Go.RowKit

/-- A reader's block: its text, and how far it is. -/
abbrev Rdr (W : World) (B : Nat) (t : ByteArray) (k : Nat) : Prop := Blk W B 47 #[.string t, .int .i64 (k : Int)]

/-- What a reader gives up with. -/
def gone : List PanicEntry := [{ v := .iface 64 (.agg #[.int .i64 130]), recovered := false }]

theorem giveUp_any (p : Value) (w : World) : Calls Tryd.prog 29 #[p] w fun e w' => e = .panicked gone ∧ w = w' := by
  go_enter Tryd.func29, Tryd.ntmps29
  go_wp2
  exact ⟨rfl, rfl, rfl⟩

/-- The bytes from one place up to another. -/
def cutS (t : ByteArray) (k n : Nat) : ByteArray := t.extract k (k + n)

theorem clone_any (s : ByteArray) (w : World) (hlim : s.size ≤ 281474976710656) : Calls Tryd.prog 44 #[.string s] w fun e w' => e = .returned (.string s) ∧ Below w.heap.size w w' := by
  have H := Lib.hid (Tryd.stringslite_Clone s w hlim)
  go_enter Tryd.func44, Tryd.ntmps44
  go_wp2_with (go_at_call 62; refine H.out.mono ?_; rintro e w1 ⟨rfl, hB⟩)
  go_ret
  exact ⟨rfl, by assumption⟩

theorem grown_of_below' {w w' : World} (h : Below w.heap.size w w') (row : Option Nat) : w.grownBy w' row := ⟨h.os, h.tape, h.output, h.size, fun k hk _ => h.block k hk⟩

theorem grown_set {w W : World} {B : Nat} (h : w.grownBy W (some B)) (i : Nat) (v : Value) : w.grownBy (W.setCell ⟨B, i, none⟩ v) (some B) :=
  ⟨h.os, h.tape, h.output, by simpa using h.size, fun k hk hne => by rw [Below.heap_setCell W ⟨B, i, none⟩ v k (fun e => hne (by rw [e]))]; exact h.block k hk hne⟩

set_option maxHeartbeats 1600000 in
theorem take_any (B : Nat) (t : ByteArray) (k n : Nat) (ht : t.size ≤ 1048576) (hk : k + n ≤ t.size) (w : World) (hB : Rdr w B t k) :
    Calls Tryd.prog 28 #[.pointer (some ⟨B, 0, none⟩), .int .i64 n] w fun e w' => e = .returned (.string (cutS t k n)) ∧ w.grownBy w' (some B) ∧ Rdr w' B t (k + n) := by
  have n1 : (k : Int) + (n : Int) ≤ (t.size : Int) := by omega
  have n2 : (0 : Int) ≤ (k : Int) := by omega
  have n3 : (0 : Int) ≤ (n : Int) := by omega
  have n4 : (k : Int) ≤ (k : Int) + (n : Int) := by omega
  have hw1 : IntKind.i64.wrap ((k : Int) + (n : Int)) = (k : Int) + (n : Int) := IntWalk.i64_in _ (by omega)
  have hw2 : ((k : Int) + (n : Int)).toNat = k + n := by omega
  have HC := fun w' => Lib.hid (clone_any (cutS t k n) w' (by unfold cutS; rw [ByteArray.size_extract]; omega))
  unfold cutS at HC
  have HKeep : Hid (∀ W W', Below w.heap.size w W → Below W.heap.size W W' → Below w.heap.size w W' ∧ W'.cell? ⟨B, 0, none⟩ = some (.string t) ∧ W'.cell? ⟨B, 1, none⟩ = some (.int .i64 (k : Int))) := by
    refine Lib.hid fun W W' h1 h2 => ?_
    have h3 := h1.trans (h2.mono h1.size)
    have hb := hB.below h3 hB.lt
    exact ⟨h3, hb.cell 0, hb.cell 1⟩
  obtain ⟨_, c0, c1⟩ := HKeep.out w w (Below.refl _ _) (Below.refl _ _)
  have HB := Lib.hid hB
  have hlt := hB.lt
  clear hB
  go_enter Tryd.func28, Tryd.ntmps28
  go_wp2
  go_region_held3 (fun W => W.cell? ⟨B, 0, none⟩ = some (.string t) ∧ W.cell? ⟨B, 1, none⟩ = some (.int .i64 (k : Int))) (go_keep)
    (first | (go_at_call 44; (with_reducible refine (HC _).out.mono ?_); rintro e w' ⟨rfl, hB1⟩; obtain ⟨hBx, e0, e1⟩ := HKeep.out _ _ (by first | assumption | exact (Below.refl _ w).drew) hB1; clear hB1))
  all_goals
    have hb := HB.out.below hBx HB.out.lt
    have hb2 := hb.set 1 (.int .i64 ((k : Int) + (n : Int)))
    have hgr := grown_set (grown_of_below' hBx (some B)) 1 (.int .i64 ((k : Int) + (n : Int)))
    have HX := Lib.hid hb2
    have HY := Lib.hid hgr
    have fz := hb.frozen 1
    have hlt1 := hb.lt
    clear hb hb2 hgr hBx
    go_wp2
    go_ret
    exact ⟨rfl, HY.out, HX.out⟩
end Go.Proofs.YtdodkbpagbblmaaDoor
