import Derived.RegionTactic
import Derived.BigRegion
import Derived.IntWalk
import Derived.Deep.DeepCutAuto
import Derived.Test.YtodnlcbnbkkanaaGreatDoorS1
import Derived.Test.YtodnlcbnbkkanaaGreatDoorS4
import Derived.Test.YtodnlcbnbkkanaaGreatDoorS5
import Derived.Test.YtodnlcbnbkkanaaGreatDoorS10
section
namespace Go.Proofs.YtodnlcbnbkkanaaGreatDoor
open Go Go.RowKit

theorem row_blk {α : Type} {cs : α → Array Value} {k : Nat} {G : World → α → Prop} (hk : ∀ x, (cs x).size = k) {W : World} {B t : Nat} {c : Array Value} {l : List α} (h : Blk W B t c) (hc : c.toList = cellsL cs l) (hG : ∀ x, x ∈ l → G W x) :
  RowOf k cs G W (some ⟨B, 0, none⟩) l := fun i x hx => by
 refine ⟨B, 0, rfl, h.lt, fun j v hv => ?_, hG x (List.mem_of_getElem? hx)⟩
 have hj : j < k := by
  have := (Array.getElem?_eq_some_iff.1 hv).1
  rw [hk] at this; exact this
 rw [Nat.zero_add, h.cell, ← Array.getElem?_toList, hc, cellsL_at hk l i x hx j hj]
 exact hv
structure GSIn (w : World) (sa pa r0 r1 r3 r4 : Nat) : Prop where
 s : Blk w sa 9 #[.string ⟨#[83]⟩, .string ⟨#[65]⟩, .string ⟨#[66]⟩]
 p : Blk w pa 65 #[.int .i64 0, .slice (some ⟨r0, 0, none⟩) 2 2, .string ⟨#[]⟩, .int .i64 0, .bool false, .bool false, .int .i64 (-1), .int .i64 0, .slice (some ⟨r1, 0, none⟩) 1 1, .string ⟨#[]⟩, .int .i64 0, .bool false, .bool false, .int .i64 (-1), .int .i64 1, .slice none 0 0, .string ⟨#[]⟩, .int .i64 0, .bool false, .bool false, .int .i64 (-1), .int .i64 1, .slice (some ⟨r3, 0, none⟩) 2 2, .string ⟨#[]⟩, .int .i64 0, .bool false, .bool false, .int .i64 (-1), .int .i64 2, .slice (some ⟨r4, 0, none⟩) 1 1, .string ⟨#[]⟩, .int .i64 0, .bool false, .bool false, .int .i64 (-1)]
 a0 : Blk w r0 60 (symC ⟨1, 0, 1⟩ ++ symC ⟨1, 0, 0⟩)
 a1 : Blk w r1 60 (symC ⟨0, lx, 0⟩)
 a3 : Blk w r3 60 (symC ⟨0, la, 0⟩ ++ symC ⟨1, 0, 1⟩)
 a4 : Blk w r4 60 (symC ⟨1, 0, 2⟩)
def GSa (sa pa r0 r1 r3 r4 : Nat) : GramM := GS (some ⟨sa, 0, none⟩) (some ⟨pa, 0, none⟩) (some ⟨r0, 0, none⟩) (some ⟨r1, 0, none⟩) (some ⟨r3, 0, none⟩) (some ⟨r4, 0, none⟩)
theorem GSIn.inn {w : World} {sa pa r0 r1 r3 r4 : Nat} (h : GSIn w sa pa r0 r1 r3 r4) : GIn w (GSa sa pa r0 r1 r3 r4) := by
 refine ⟨row_blk (cs := strC) (k := 1) (fun _ => rfl) h.s (by simp [cellsL, strC, GSa, GS]) (fun _ _ => trivial), row_blk (cs := prodC) (k := 7) (fun _ => rfl) h.p (by simp [cellsL, prodC, GSa, GS]) (fun x hx => ?_), RowOf.nil _, RowOf.nil _⟩
 rcases GS_mem _ _ _ _ _ _ hx with rfl | rfl | rfl | rfl | rfl
 ·exact row_blk (cs := symC) (k := 6) (fun _ => rfl) h.a0 (by simp [cellsL]) (fun _ _ => trivial)
 ·exact row_blk (cs := symC) (k := 6) (fun _ => rfl) h.a1 (by simp [cellsL]) (fun _ _ => trivial)
 ·exact RowOf.nil _
 ·exact row_blk (cs := symC) (k := 6) (fun _ => rfl) h.a3 (by simp [cellsL]) (fun _ _ => trivial)
 ·exact row_blk (cs := symC) (k := 6) (fun _ => rfl) h.a4 (by simp [cellsL]) (fun _ _ => trivial)
theorem GSIn.below {w W : World} {sa pa r0 r1 r3 r4 : Nat} (h : GSIn w sa pa r0 r1 r3 r4) (hB : Below w.heap.size w W) : GSIn W sa pa r0 r1 r3 r4 :=
 ⟨h.s.below hB h.s.lt, h.p.below hB h.p.lt, h.a0.below hB h.a0.lt, h.a1.below hB h.a1.lt, h.a3.below hB h.a3.lt, h.a4.below hB h.a4.lt⟩
theorem GS_fit (sa pa r0 r1 r3 r4 : Nat) : FitG (GSa sa pa r0 r1 r3 r4) := by
 refine ⟨⟨by simp [GSa, GS], by simp [GSa, GS], fun x hx => ?_, by simp [GSa, GS], by simp [GSa, GS], fun f hf => by simp [GSa, GS] at hf, fun s hs => ?_⟩, fun f hf => by simp [GSa, GS] at hf, fun f hf => by simp [GSa, GS] at hf⟩
 ·rcases GS_mem _ _ _ _ _ _ hx with rfl | rfl | rfl | rfl | rfl <;> simp
 ·simp only [GSa, GS, List.mem_cons, List.not_mem_nil, or_false] at hs
  rcases hs with rfl | rfl | rfl <;> decide
theorem cells5s {W : World} {B t : Nat} {u0 u1 u2 u3 u4 : Value} (h : Blk W B t #[u0, u1, u2, u3, u4]) : W.cell? ⟨B, 0, none⟩ = some u0 ∧ W.cell? ⟨B, 1, none⟩ = some u1 ∧ W.cell? ⟨B, 2, none⟩ = some u2 ∧ W.cell? ⟨B, 3, none⟩ = some u3 ∧ W.cell? ⟨B, 4, none⟩ = some u4 :=
 ⟨h.cell 0, h.cell 1, h.cell 2, h.cell 3, h.cell 4⟩
def SmpPost (w : World) (e : Ending) (w' : World) : Prop := ∃ sa pa r0 r1 r3 r4, GSIn w' sa pa r0 r1 r3 r4 ∧ e = .returned (gramV (GSa sa pa r0 r1 r3 r4)) ∧ Below w.heap.size w w'

set_option maxRecDepth 100000 in
set_option maxHeartbeats 4000000 in
theorem smp_any (w : World) : Calls Tryz.prog 40 #[] w (SmpPost w) := by
 have HS := Lib.hid (fun i W => sortSym_any i W)
 have HLx := Lib.hid one_x
 have HLa := Lib.hid one_a
 obtain ⟨z, hz⟩ : ∃ z : BS, z = 0 := ⟨_, rfl⟩
 obtain ⟨bx, hbx⟩ : ∃ z : BS, z = lx := ⟨_, rfl⟩
 obtain ⟨ba, hba⟩ : ∃ z : BS, z = la := ⟨_, rfl⟩
 rw [← hz] at HS
 rw [← hbx] at HLx
 rw [← hba] at HLa
 have HZ := Lib.hid hz
 have HX := Lib.hid hbx
 have HA := Lib.hid hba
 clear hz hbx hba
 unfold symV symC at HS HLx HLa
 go_enter Tryz.func40, Tryz.ntmps40
 go_wp2_with fail
 have HB0 : Hid (Below w.heap.size w ((w.alloc (.cells #[.slice none 0 0, .slice none 0 0, .int .i64 0, .slice none 0 0, .slice none 0 0] 27)).alloc (.cells #[.string ⟨#[83]⟩, .string ⟨#[65]⟩, .string ⟨#[66]⟩] 9))) := Lib.hid (((Below.refl _ _).alloc (Nat.le_refl _) _).alloc (by simp) _)
 have HG0 : Hid (Blk ((w.alloc (.cells #[.slice none 0 0, .slice none 0 0, .int .i64 0, .slice none 0 0, .slice none 0 0] 27)).alloc (.cells #[.string ⟨#[83]⟩, .string ⟨#[65]⟩, .string ⟨#[66]⟩] 9)) w.heap.size 27 #[.slice none 0 0, .slice none 0 0, .int .i64 0, .slice none 0 0, .slice none 0 0]) := Lib.hid ((Blk.new w 27 _).alloc _)
 have HK0 : Hid (Blk ((w.alloc (.cells #[.slice none 0 0, .slice none 0 0, .int .i64 0, .slice none 0 0, .slice none 0 0] 27)).alloc (.cells #[.string ⟨#[83]⟩, .string ⟨#[65]⟩, .string ⟨#[66]⟩] 9)) (w.heap.size + 1) 9 #[.string ⟨#[83]⟩, .string ⟨#[65]⟩, .string ⟨#[66]⟩]) := Lib.hid (by
  have h := Blk.new (w.alloc (.cells #[.slice none 0 0, .slice none 0 0, .int .i64 0, .slice none 0 0, .slice none 0 0] 27)) 9 #[.string ⟨#[83]⟩, .string ⟨#[65]⟩, .string ⟨#[66]⟩]
  rw [World.size_alloc] at h
  exact h)
 with_reducible refine (HS.out 1 _).mono ?_
 rintro e w1 ⟨rfl, hB1⟩
 have HG1 := Lib.hid (HG0.out.below hB1 HG0.out.lt)
 have HK1 := Lib.hid (HK0.out.below hB1 HK0.out.lt)
 have HB1 := Lib.hid (HB0.out.trans (hB1.mono HB0.out.size))
 clear hB1 HG0 HK0 HB0
 go_wp2_with fail
 with_reducible refine (HS.out 0 _).mono ?_
 rintro e w2 ⟨rfl, hB2⟩
 have HG2 := Lib.hid (HG1.out.below hB2 HG1.out.lt)
 have HK2 := Lib.hid (HK1.out.below hB2 HK1.out.lt)
 have HB2 := Lib.hid (HB1.out.trans (hB2.mono HB1.out.size))
 clear hB2 HG1 HK1 HB1
 have hA2 : Below w2.heap.size w2 (w2.alloc (.cells #[.int .i64 1, .int .u64 (wdI z 0), .int .u64 (wdI z 1), .int .u64 (wdI z 2), .int .u64 (wdI z 3), .int .i64 1, .int .i64 1, .int .u64 (wdI z 0), .int .u64 (wdI z 1), .int .u64 (wdI z 2), .int .u64 (wdI z 3), .int .i64 0] 60)) := (Below.refl _ _).alloc (Nat.le_refl _) _
 have HG2a := Lib.hid (HG2.out.below hA2 HG2.out.lt)
 have HK2a := Lib.hid (HK2.out.below hA2 HK2.out.lt)
 have HR2a := Lib.hid (Blk.new w2 60 #[.int .i64 1, .int .u64 (wdI z 0), .int .u64 (wdI z 1), .int .u64 (wdI z 2), .int .u64 (wdI z 3), .int .i64 1, .int .i64 1, .int .u64 (wdI z 0), .int .u64 (wdI z 1), .int .u64 (wdI z 2), .int .u64 (wdI z 3), .int .i64 0])
 have HB2a := Lib.hid (HB2.out.trans (hA2.mono HB2.out.size))
 clear hA2 HG2 HK2 HB2
 have HG2 := HG2a
 clear HG2a
 have HK2 := HK2a
 clear HK2a
 have HR2 := HR2a
 clear HR2a
 have HB2 := HB2a
 clear HB2a
 go_wp2_with fail
 with_reducible refine (HLx.out _).mono ?_
 rintro e w3 ⟨rfl, hB3⟩
 have HG3 := Lib.hid (HG2.out.below hB3 HG2.out.lt)
 have HK3 := Lib.hid (HK2.out.below hB3 HK2.out.lt)
 have HR3 := Lib.hid (HR2.out.below hB3 HR2.out.lt)
 have HB3 := Lib.hid (HB2.out.trans (hB3.mono HB2.out.size))
 clear hB3 HG2 HK2 HR2 HB2
 have hA3 : Below w3.heap.size w3 (w3.alloc (.cells #[.int .i64 0, .int .u64 (wdI bx 0), .int .u64 (wdI bx 1), .int .u64 (wdI bx 2), .int .u64 (wdI bx 3), .int .i64 0] 60)) := (Below.refl _ _).alloc (Nat.le_refl _) _
 have HG3a := Lib.hid (HG3.out.below hA3 HG3.out.lt)
 have HK3a := Lib.hid (HK3.out.below hA3 HK3.out.lt)
 have HR3a := Lib.hid (HR3.out.below hA3 HR3.out.lt)
 have HT3a := Lib.hid (Blk.new w3 60 #[.int .i64 0, .int .u64 (wdI bx 0), .int .u64 (wdI bx 1), .int .u64 (wdI bx 2), .int .u64 (wdI bx 3), .int .i64 0])
 have HB3a := Lib.hid (HB3.out.trans (hA3.mono HB3.out.size))
 clear hA3 HG3 HK3 HR3 HB3
 have HG3 := HG3a
 clear HG3a
 have HK3 := HK3a
 clear HK3a
 have HR3 := HR3a
 clear HR3a
 have HT3 := HT3a
 clear HT3a
 have HB3 := HB3a
 clear HB3a
 go_wp2_with fail
 with_reducible refine (HLa.out _).mono ?_
 rintro e w4 ⟨rfl, hB4⟩
 have HG4 := Lib.hid (HG3.out.below hB4 HG3.out.lt)
 have HK4 := Lib.hid (HK3.out.below hB4 HK3.out.lt)
 have HR4 := Lib.hid (HR3.out.below hB4 HR3.out.lt)
 have HT4 := Lib.hid (HT3.out.below hB4 HT3.out.lt)
 have HB4 := Lib.hid (HB3.out.trans (hB4.mono HB3.out.size))
 clear hB4 HG3 HK3 HR3 HT3 HB3
 go_wp2_with fail
 with_reducible refine (HS.out 1 _).mono ?_
 rintro e w5 ⟨rfl, hB5⟩
 have HG5 := Lib.hid (HG4.out.below hB5 HG4.out.lt)
 have HK5 := Lib.hid (HK4.out.below hB5 HK4.out.lt)
 have HR5 := Lib.hid (HR4.out.below hB5 HR4.out.lt)
 have HT5 := Lib.hid (HT4.out.below hB5 HT4.out.lt)
 have HB5 := Lib.hid (HB4.out.trans (hB5.mono HB4.out.size))
 clear hB5 HG4 HK4 HR4 HT4 HB4
 have hA5 : Below w5.heap.size w5 (w5.alloc (.cells #[.int .i64 0, .int .u64 (wdI ba 0), .int .u64 (wdI ba 1), .int .u64 (wdI ba 2), .int .u64 (wdI ba 3), .int .i64 0, .int .i64 1, .int .u64 (wdI z 0), .int .u64 (wdI z 1), .int .u64 (wdI z 2), .int .u64 (wdI z 3), .int .i64 1] 60)) := (Below.refl _ _).alloc (Nat.le_refl _) _
 have HG5a := Lib.hid (HG5.out.below hA5 HG5.out.lt)
 have HK5a := Lib.hid (HK5.out.below hA5 HK5.out.lt)
 have HR5a := Lib.hid (HR5.out.below hA5 HR5.out.lt)
 have HT5a := Lib.hid (HT5.out.below hA5 HT5.out.lt)
 have HU5a := Lib.hid (Blk.new w5 60 #[.int .i64 0, .int .u64 (wdI ba 0), .int .u64 (wdI ba 1), .int .u64 (wdI ba 2), .int .u64 (wdI ba 3), .int .i64 0, .int .i64 1, .int .u64 (wdI z 0), .int .u64 (wdI z 1), .int .u64 (wdI z 2), .int .u64 (wdI z 3), .int .i64 1])
 have HB5a := Lib.hid (HB5.out.trans (hA5.mono HB5.out.size))
 clear hA5 HG5 HK5 HR5 HT5 HB5
 have HG5 := HG5a
 clear HG5a
 have HK5 := HK5a
 clear HK5a
 have HR5 := HR5a
 clear HR5a
 have HT5 := HT5a
 clear HT5a
 have HU5 := HU5a
 clear HU5a
 have HB5 := HB5a
 clear HB5a
 go_wp2_with fail
 with_reducible refine (HS.out 2 _).mono ?_
 rintro e w6 ⟨rfl, hB6⟩
 have HG6 := Lib.hid (HG5.out.below hB6 HG5.out.lt)
 have HK6 := Lib.hid (HK5.out.below hB6 HK5.out.lt)
 have HR6 := Lib.hid (HR5.out.below hB6 HR5.out.lt)
 have HT6 := Lib.hid (HT5.out.below hB6 HT5.out.lt)
 have HU6 := Lib.hid (HU5.out.below hB6 HU5.out.lt)
 have HB6 := Lib.hid (HB5.out.trans (hB6.mono HB5.out.size))
 clear hB6 HG5 HK5 HR5 HT5 HU5 HB5
 have f0 := HG6.out.frozen 0
 have f1 := HG6.out.frozen 1
 have f2 := HG6.out.frozen 2
 have f3 := HG6.out.frozen 3
 have f4 := HG6.out.frozen 4
 obtain ⟨c0, c1, c2, c3, c4⟩ := cells5s HG6.out
 have lg := HG6.out.lt
 go_wp2
 obtain ⟨V, hV⟩ : ∃ V, V = (((((w6.setCell ⟨w.heap.size, 0, none⟩ (.slice (some ⟨w.heap.size + 1, 0, none⟩) 3 3)).setCell ⟨w.heap.size, 1, none⟩ (.slice (some ⟨w6.heap.size + 1, 0, none⟩) 5 5)).setCell ⟨w.heap.size, 2, none⟩ (.int .i64 0)).setCell ⟨w.heap.size, 3, none⟩ (.slice none 0 0)).setCell ⟨w.heap.size, 4, none⟩ (.slice none 0 0)) := ⟨_, rfl⟩
 have hvs : V.heap.size = w6.heap.size := by rw [hV]; simp only [World.size_setCell]
 have hG : Blk V w.heap.size 27 #[.slice (some ⟨w.heap.size + 1, 0, none⟩) 3 3, .slice (some ⟨w6.heap.size + 1, 0, none⟩) 5 5, .int .i64 0, .slice none 0 0, .slice none 0 0] := by
  have h := ((((HG6.out.set 0 (.slice (some ⟨w.heap.size + 1, 0, none⟩) 3 3)).set 1 (.slice (some ⟨w6.heap.size + 1, 0, none⟩) 5 5)).set 2 (.int .i64 0)).set 3 (.slice none 0 0)).set 4 (.slice none 0 0)
  rw [hV]
  exact h
 have hkn := blk_ne HK6.out HG6.out (by decide)
 have HK7 := Lib.hid (show Blk V _ _ _ by rw [hV]; exact ((((HK6.out.other hkn _).other hkn _).other hkn _).other hkn _).other hkn _)
 have hrn := blk_ne HR6.out HG6.out (by decide)
 have HR7 := Lib.hid (show Blk V _ _ _ by rw [hV]; exact ((((HR6.out.other hrn _).other hrn _).other hrn _).other hrn _).other hrn _)
 have htn := blk_ne HT6.out HG6.out (by decide)
 have HT7 := Lib.hid (show Blk V _ _ _ by rw [hV]; exact ((((HT6.out.other htn _).other htn _).other htn _).other htn _).other htn _)
 have hun := blk_ne HU6.out HG6.out (by decide)
 have HU7 := Lib.hid (show Blk V _ _ _ by rw [hV]; exact ((((HU6.out.other hun _).other hun _).other hun _).other hun _).other hun _)
 have hB7 : Below w.heap.size w V := by rw [hV]; exact ((((HB6.out.setCell (p := ⟨w.heap.size, 0, none⟩) (Nat.le_refl _) _).setCell (p := ⟨w.heap.size, 1, none⟩) (Nat.le_refl _) _).setCell (p := ⟨w.heap.size, 2, none⟩) (Nat.le_refl _) _).setCell (p := ⟨w.heap.size, 3, none⟩) (Nat.le_refl _) _).setCell (p := ⟨w.heap.size, 4, none⟩) (Nat.le_refl _) _
 rw [← hV]
 obtain ⟨W7, hW7⟩ : ∃ W, W = (V.alloc (.cells #[.int .i64 1, .int .u64 (wdI z 0), .int .u64 (wdI z 1), .int .u64 (wdI z 2), .int .u64 (wdI z 3), .int .i64 2] 60)).alloc (.cells #[.int .i64 0, .slice (some ⟨w2.heap.size, 0, none⟩) 2 2, .string ⟨#[]⟩, .int .i64 0, .bool false, .bool false, .int .i64 (-1), .int .i64 0, .slice (some ⟨w3.heap.size, 0, none⟩) 1 1, .string ⟨#[]⟩, .int .i64 0, .bool false, .bool false, .int .i64 (-1), .int .i64 1, .slice none 0 0, .string ⟨#[]⟩, .int .i64 0, .bool false, .bool false, .int .i64 (-1), .int .i64 1, .slice (some ⟨w5.heap.size, 0, none⟩) 2 2, .string ⟨#[]⟩, .int .i64 0, .bool false, .bool false, .int .i64 (-1), .int .i64 2, .slice (some ⟨w6.heap.size, 0, none⟩) 1 1, .string ⟨#[]⟩, .int .i64 0, .bool false, .bool false, .int .i64 (-1)] 65) := ⟨_, rfl⟩
 have hA7 : Below V.heap.size V W7 := by rw [hW7]; exact ((Below.refl _ _).alloc (Nat.le_refl _) _).alloc (by simp) _
 have hv7 : Blk W7 w6.heap.size 60 #[.int .i64 1, .int .u64 (wdI z 0), .int .u64 (wdI z 1), .int .u64 (wdI z 2), .int .u64 (wdI z 3), .int .i64 2] := by rw [hW7, ← hvs]; exact (Blk.new V 60 _).alloc _
 have hp7 : Blk W7 (w6.heap.size + 1) 65 #[.int .i64 0, .slice (some ⟨w2.heap.size, 0, none⟩) 2 2, .string ⟨#[]⟩, .int .i64 0, .bool false, .bool false, .int .i64 (-1), .int .i64 0, .slice (some ⟨w3.heap.size, 0, none⟩) 1 1, .string ⟨#[]⟩, .int .i64 0, .bool false, .bool false, .int .i64 (-1), .int .i64 1, .slice none 0 0, .string ⟨#[]⟩, .int .i64 0, .bool false, .bool false, .int .i64 (-1), .int .i64 1, .slice (some ⟨w5.heap.size, 0, none⟩) 2 2, .string ⟨#[]⟩, .int .i64 0, .bool false, .bool false, .int .i64 (-1), .int .i64 2, .slice (some ⟨w6.heap.size, 0, none⟩) 1 1, .string ⟨#[]⟩, .int .i64 0, .bool false, .bool false, .int .i64 (-1)] := by
  have h := Blk.new (V.alloc (.cells #[.int .i64 1, .int .u64 (wdI z 0), .int .u64 (wdI z 1), .int .u64 (wdI z 2), .int .u64 (wdI z 3), .int .i64 2] 60)) 65 #[.int .i64 0, .slice (some ⟨w2.heap.size, 0, none⟩) 2 2, .string ⟨#[]⟩, .int .i64 0, .bool false, .bool false, .int .i64 (-1), .int .i64 0, .slice (some ⟨w3.heap.size, 0, none⟩) 1 1, .string ⟨#[]⟩, .int .i64 0, .bool false, .bool false, .int .i64 (-1), .int .i64 1, .slice none 0 0, .string ⟨#[]⟩, .int .i64 0, .bool false, .bool false, .int .i64 (-1), .int .i64 1, .slice (some ⟨w5.heap.size, 0, none⟩) 2 2, .string ⟨#[]⟩, .int .i64 0, .bool false, .bool false, .int .i64 (-1), .int .i64 2, .slice (some ⟨w6.heap.size, 0, none⟩) 1 1, .string ⟨#[]⟩, .int .i64 0, .bool false, .bool false, .int .i64 (-1)]
  rw [World.size_alloc, hvs] at h
  rw [hW7]; exact h
 have HK8 := Lib.hid (HK7.out.below hA7 HK7.out.lt)
 have HR8 := Lib.hid (HR7.out.below hA7 HR7.out.lt)
 have HT8 := Lib.hid (HT7.out.below hA7 HT7.out.lt)
 have HU8 := Lib.hid (HU7.out.below hA7 HU7.out.lt)
 have hG8 := hG.below hA7 hG.lt
 have HB8 := Lib.hid (hB7.trans (hA7.mono hB7.size))
 have HIn : Hid (GSIn W7 (w.heap.size + 1) (w6.heap.size + 1) w2.heap.size w3.heap.size w5.heap.size w6.heap.size) := Lib.hid ⟨HK8.out, hp7, by
  have h := HR8.out
  rw [HZ.out] at h; exact h, by
  have h := HT8.out
  rw [HX.out] at h; exact h, by
  have h := HU8.out
  rw [HA.out, HZ.out] at h; exact h, by
  have h := hv7
  rw [HZ.out] at h; exact h⟩
 obtain ⟨q0, q1, q2, q3, q4⟩ := cells5s hG8
 rw [← hW7]
 clear hW7 hG8 hv7 hp7 hA7 hG hV
 refine bodyPost_ret (v := .agg #[.slice (some ⟨w.heap.size + 1, 0, none⟩) 3 3, .slice (some ⟨w6.heap.size + 1, 0, none⟩) 5 5, .int .i64 0, .slice none 0 0, .slice none 0 0]) (by simp [results, Tryz.results40, go_sem, q0, q1, q2, q3, q4]) rfl ⟨_, _, _, _, _, _, HIn.out, rfl, HB8.out⟩
end Go.Proofs.YtodnlcbnbkkanaaGreatDoor
end
section
namespace Go.Proofs.YtodnlcbnbkkanaaGreatDoor
open Go Go.RowKit

set_option maxHeartbeats 400000 in
theorem errno_any (n : Int) (w : World) : Calls Tryz.prog 25 #[.int .i64 n] w fun e w' => e = .returned (.int .i64 n) ∧ w = w' := by
 go_enter Tryz.func25, Tryz.ntmps25
 go_wp2
 go_ret
 exact ⟨rfl, rfl⟩
def boolsB (a b : List Bool) (e n : Int) : Bool := if e = n ∧ n = 0 then a == b else (e == n && a.isEmpty)
theorem bools_step {a b : List Bool} {k : Nat} (h : ∀ i, i < k → a[i]? = b[i]?) (hk : a[k]? = b[k]?) : ∀ i, i < k + 1 → a[i]? = b[i]? := fun i hi => by
 by_cases e : i = k
 ·subst e; exact hk
 ·exact h i (by omega)

set_option maxRecDepth 100000 in
set_option maxHeartbeats 2000000 in
theorem bools_any (a b : List Bool) (aa ab : Option Addr) (ca cb : Nat) (e n : Int) (w : World) (ha : RowBool w aa a) (hb : RowBool w ab b) (la : a.length ≤ 1048576) (lb : b.length ≤ 1048576) :
  Calls Tryz.prog 17 #[.slice aa a.length ca, .slice ab b.length cb, .int .i64 e, .int .i64 n] w fun r w' => r = .returned (.bool (boolsB a b e n)) ∧ Below w.heap.size w w' := by
 have HA := Lib.hid ha
 have HB := Lib.hid hb
 have HW := Lib.hid (Below.refl w.heap.size w)
 obtain ⟨q, hq⟩ : ∃ q, q = boolsB a b e n := ⟨_, rfl⟩
 rw [← hq]
 unfold boolsB at hq
 by_cases h1 : e = n
 ·subst h1
  by_cases h2 : e = 0
  ·subst h2
   rw [if_pos ⟨rfl, rfl⟩] at hq
   by_cases h3 : a.length = b.length
   ·have HQ := Lib.hid hq
    obtain ⟨m, hm⟩ : ∃ m : Nat, m = a.length := ⟨_, rfl⟩
    have hm2 : m = b.length := hm.trans h3
    have HM := Lib.hid hm
    have HM2 := Lib.hid hm2
    rw [← hm, ← hm2]
    rw [← hm] at la
    clear ha hb hq h3 hm hm2 lb
    go_enter Tryz.func17, Tryz.ntmps17
    go_wp2_with (go_at_call 25; refine (errno_any _ _).mono ?_; rintro e w' ⟨rfl, rfl⟩)
    go_loopw [9] (fun vi wr => ∃ k : Nat, vi = .int .i64 k ∧ k ≤ m ∧ Hid (∀ i, i < k → a[i]? = b[i]?) ∧ Hid (Below w.heap.size w wr)) (fun vi _ => m - (intOf vi).toNat)
    case atStart => exact ⟨0, rfl, Nat.zero_le _, Lib.hid (fun j hj => by omega), HW⟩
    case round =>
     clear HW
     obtain ⟨k, rfl, hk, hS, K⟩ := hrel
     by_cases hlt : k < m
     ·have ka : k < a.length := by have := HM.out; omega
      have kb : k < b.length := by have := HM2.out; omega
      obtain ⟨b1, o1, rfl, hb1, hc1, q1⟩ := HA.out k _ (List.getElem?_eq_getElem ka)
      obtain ⟨b2, o2, rfl, hb2, hc2, q2⟩ := HB.out k _ (List.getElem?_eq_getElem kb)
      have x0 := Bool_at (hc1.below K.out hb1)
      have y0 := Bool_at (hc2.below K.out hb2)
      rw [Nat.mul_one] at x0 y0
      have hb1' := Nat.lt_of_lt_of_le hb1 K.out.size
      have hb2' := Nat.lt_of_lt_of_le hb2 K.out.size
      have z1 : (k : Int) < (m : Int) := by omega
      have z0 : (0 : Int) ≤ (k : Int) := by omega
      have HG : Hid (a[k] = b[k] → ∀ i, i < k + 1 → a[i]? = b[i]?) := Lib.hid (fun h => bools_step hS.out (by rw [List.getElem?_eq_getElem ka, List.getElem?_eq_getElem kb, h]))
      have HE : Hid (a[k] ≠ b[k] → q = false) := Lib.hid (fun h => by
       rw [HQ.out]
       refine beq_false_of_ne (fun e => h ?_)
       subst e; rfl)
      obtain ⟨u, hu⟩ : ∃ u, u = a[k] := ⟨_, rfl⟩
      obtain ⟨v, hv⟩ : ∃ v, v = b[k] := ⟨_, rfl⟩
      rw [← hu] at x0 HG HE
      rw [← hv] at y0 HG HE
      clear hc1 hc2 q1 q2 hS hu hv ka kb HA HB
      by_cases huv : u = v
      ·have HZ := Lib.hid (HG.out huv)
       subst huv
       clear HG HE
       cases u <;>
       ·go_wp2
        go_region
        go_wp2
        go_roundw
        case rel => exact ⟨k + 1, by go_num, by omega, HZ, Lib.hid K.out.drew⟩
        case measure => simp [intOf]; omega
      ·have HZ := Lib.hid (HE.out huv)
       clear HG HE HQ
       cases u <;> cases v <;> first | exact absurd rfl huv | skip
       all_goals
        go_wp2
        go_region
        go_wp2
        go_ret
        exact ⟨by rw [HZ.out]; rfl, K.out.drew⟩
     ·obtain rfl : m = k := by omega
      have HZ : Hid (q = true) := Lib.hid (by
       rw [HQ.out]
       refine beq_iff_eq.2 (List.ext_getElem? fun i => ?_)
       by_cases hi : i < m
       ·exact hS.out i hi
       ·rw [List.getElem?_eq_none (by have := HM.out; omega), List.getElem?_eq_none (by have := HM2.out; omega)])
      clear hS HQ
      go_wp2
      go_ret
      exact ⟨by rw [HZ.out]; rfl, K.out⟩
   ·have HE : Hid (q = false) := Lib.hid (by rw [hq]; exact beq_false_of_ne (fun e => h3 (by rw [e])))
    have h4 : ¬ ((a.length : Int) = (b.length : Int)) := by omega
    clear hq
    go_enter Tryz.func17, Tryz.ntmps17
    go_wp2_with (go_at_call 25; refine (errno_any _ _).mono ?_; rintro e w' ⟨rfl, rfl⟩)
    go_ret
    exact ⟨by rw [HE.out]; rfl, HW.out⟩
  ·rw [if_neg (fun h => h2 h.2)] at hq
   cases h5 : a with
   | nil =>
    have HE : Hid (q = true) := Lib.hid (by rw [hq, h5]; simp)
    subst h5
    clear hq
    go_enter Tryz.func17, Tryz.ntmps17
    go_wp2_with (go_at_call 25; refine (errno_any _ _).mono ?_; rintro e w' ⟨rfl, rfl⟩)
    go_ret
    exact ⟨by rw [HE.out]; rfl, HW.out⟩
   | cons x r =>
    have HE : Hid (q = false) := Lib.hid (by rw [hq, h5]; simp)
    have h6 : ¬ (((x :: r).length : Int) = 0) := by simp; omega
    rw [h5] at la
    clear hq h5 HA ha
    generalize (x :: r).length = L at *
    have h7 : decide ((L : Int) = 0) = false := by simpa using h6
    have h8 : ((L : Int) == 0) = false := by simpa using h6
    go_enter Tryz.func17, Tryz.ntmps17
    go_wp2_with (go_at_call 25; refine (errno_any _ _).mono ?_; rintro e w' ⟨rfl, rfl⟩)
    go_ret
    exact ⟨by rw [HE.out]; first | rfl | exact congrArg (fun b => Ending.returned (.bool b)) h7 | exact congrArg (fun b => Ending.returned (.bool b)) h8, HW.out⟩
 ·have HE : Hid (q = false) := Lib.hid (by rw [hq, if_neg (fun h => h1 h.1), beq_false_of_ne h1]; rfl)
  clear hq
  go_enter Tryz.func17, Tryz.ntmps17
  go_wp2_with (go_at_call 25; refine (errno_any _ _).mono ?_; rintro e w' ⟨rfl, rfl⟩)
  go_ret
  exact ⟨by rw [HE.out]; rfl, HW.out⟩
end Go.Proofs.YtodnlcbnbkkanaaGreatDoor
end
section
namespace Go.Proofs.YtodnlcbnbkkanaaGreatDoor
open Go Go.RowKit

theorem rowI_cell {W : World} {B : Nat} {S : List Int} (h : RowInt W (some ⟨B, 0, none⟩) S) {k : Nat} {v : Int} (hk : S[k]? = some v) : W.cell? ⟨B, k, none⟩ = some (.int .i64 v) ∧ B < W.heap.size := by
 obtain ⟨b, o, e, hb, hc, _⟩ := h k v hk
 simp only [Option.some.injEq, Addr.mk.injEq] at e
 obtain ⟨rfl, rfl, _⟩ := e
 have := Int_at hc
 rw [Nat.mul_one, Nat.zero_add] at this
 exact ⟨this, hb⟩
structure KnownA (G : Value) (w : World) : Prop where
 sh : ∀ W, Below w.heap.size w W → Calls Tryz.prog 28 #[G] W fun e w' => ∃ B c, e = .returned (.tuple #[.slice (some ⟨B, 0, none⟩) 3 c, .int .i64 0]) ∧ W.heap.size ≤ B ∧ (w'.cell? ⟨B, 0, none⟩ = some (.int .i64 1) ∧ w'.cell? ⟨B, 1, none⟩ = some (.int .i64 0) ∧ w'.cell? ⟨B, 2, none⟩ = some (.int .i64 (-1))) ∧ B < w'.heap.size ∧ Below W.heap.size W w'
 ci : ∀ W, Below w.heap.size w W → Calls Tryz.prog 16 #[G] W fun e w' => ∃ B, e = .returned (.tuple #[.slice (some ⟨B, 0, none⟩) 3 3, .int .i64 0]) ∧ W.heap.size ≤ B ∧ Blk w' B 4 #[.bool true, .bool false, .bool false] ∧ Below W.heap.size W w'
 nu : ∀ W, Below w.heap.size w W → Calls Tryz.prog 15 #[G] W fun e w' => ∃ B, e = .returned (.tuple #[.slice (some ⟨B, 0, none⟩) 3 3, .int .i64 0]) ∧ W.heap.size ≤ B ∧ Blk w' B 4 #[.bool false, .bool true, .bool false] ∧ Below W.heap.size W w'
 s0 : ∀ W, Below w.heap.size w W → Calls Tryz.prog 29 #[G, .int .i64 0] W fun e w' => e = .returned (.tuple #[.string ⟨#[120]⟩, .int .i64 0]) ∧ Below W.heap.size W w'
 s2 : ∀ W, Below w.heap.size w W → Calls Tryz.prog 29 #[G, .int .i64 2] W fun e w' => e = .returned (.tuple #[.string ⟨#[]⟩, .int .i64 161]) ∧ Below W.heap.size W w'
theorem knownA {w : World} {sa pa r0 r1 r3 r4 : Nat} (h : GSIn w sa pa r0 r1 r3 r4) (hT : TabAt 1 Lib.deBruijn64tab w) : KnownA (gramV (GSa sa pa r0 r1 r3 r4)) w := by
 have hf := GS_fit sa pa r0 r1 r3 r4
 have hck := GS_check (some ⟨sa, 0, none⟩) (some ⟨pa, 0, none⟩) (some ⟨r0, 0, none⟩) (some ⟨r1, 0, none⟩) (some ⟨r3, 0, none⟩) (some ⟨r4, 0, none⟩)
 have hck' : checkB (GSa sa pa r0 r1 r3 r4) = true := hck
 have hTW : ∀ W, Below w.heap.size w W → TabAt 1 Lib.deBruijn64tab W := fun W hW => KpG.tab (KpG.below hW (lt_of_cell (hT 0 (by decide)))) hT
 have hS : ∀ (k : Int), k = 0 ∨ k = 2 → ∀ S, ShortP (GSa sa pa r0 r1 r3 r4) S → gi S k ≤ (4096 : Nat) ∨ gi S k = 1048577 := fun k hk S h => by
  rw [GS_isS _ _ _ _ _ _ h]
  rcases hk with rfl | rfl
  ·exact .inl (by decide)
  ·exact .inl (by decide)
 refine ⟨fun W hW => ?_, fun W hW => ?_, fun W hW => ?_, fun W hW => ?_, fun W hW => ?_⟩
 ·refine (Shortest_any _ hf W (h.below hW).inn).mono ?_
  rintro e w' ⟨hB, ⟨hc, _⟩ | ⟨_, S, B, c, hSh, rfl, hBl, hR⟩⟩
  ·rw [hck'] at hc; cases hc
  ·have e1 := GS_isS _ _ _ _ _ _ hSh
   rw [e1] at hR ⊢
   exact ⟨B, c, rfl, hBl, ⟨(rowI_cell hR (k := 0) rfl).1, (rowI_cell hR (k := 1) rfl).1, (rowI_cell hR (k := 2) rfl).1⟩, (rowI_cell hR (k := 0) rfl).2, hB⟩
 ·refine (Circular_any _ hf W (h.below hW).inn).mono ?_
  rintro e w' ⟨hB, ⟨hc, _⟩ | ⟨_, M, B, hM, rfl, hBl, hR⟩⟩
  ·rw [hck'] at hc; cases hc
  ·have e1 := GS_circ _ _ _ _ _ _ hM
   rw [e1] at hR ⊢
   exact ⟨B, rfl, hBl, hR, hB⟩
 ·refine (Nullable_any _ hf W (h.below hW).inn).mono ?_
  rintro e w' ⟨hB, ⟨hc, _⟩ | ⟨_, M, B, hM, rfl, hBl, hR⟩⟩
  ·rw [hck'] at hc; cases hc
  ·have e1 := GS_isN _ _ _ _ _ _ hM
   rw [e1] at hR ⊢
   exact ⟨B, rfl, hBl, hR, hB⟩
 ·refine (Sample_any whole4096 _ hf 0 (by decide) (by decide) (hS 0 (.inl rfl)) W (h.below hW).inn (hTW W hW)).mono ?_
  rintro e w' ⟨hB, ⟨hc, _⟩ | ⟨_, ⟨hn, _⟩ | ⟨_, S, hSh, hh⟩⟩⟩
  ·rw [hck'] at hc; cases hc
  ·exact absurd hn (by rw [show numB 0 (GSa sa pa r0 r1 r3 r4).sorts.length = true from rfl]; decide)
  ·rw [GS_isS _ _ _ _ _ _ hSh] at hh
   rcases hh with ⟨h1, _⟩ | ⟨h1, _⟩ | ⟨_, _, t, ht, rfl⟩
   ·exact absurd h1 (by decide)
   ·exact absurd h1 (by decide)
   ·rw [GS_lt _ _ _ _ _ _ ht]
    exact ⟨rfl, hB⟩
 ·refine (Sample_any whole4096 _ hf 2 (by decide) (by decide) (hS 2 (.inr rfl)) W (h.below hW).inn (hTW W hW)).mono ?_
  rintro e w' ⟨hB, ⟨hc, _⟩ | ⟨_, ⟨hn, _⟩ | ⟨_, S, hSh, hh⟩⟩⟩
  ·rw [hck'] at hc; cases hc
  ·exact absurd hn (by rw [show numB 2 (GSa sa pa r0 r1 r3 r4).sorts.length = true from rfl]; decide)
  ·rw [GS_isS _ _ _ _ _ _ hSh] at hh
   rcases hh with ⟨_, rfl⟩ | ⟨h1, _⟩ | ⟨h1, _⟩
   ·exact ⟨rfl, hB⟩
   ·exact absurd h1 (by decide)
   ·exact absurd h1 (by decide)

set_option maxRecDepth 100000 in
set_option maxHeartbeats 8000000 in
theorem works_any (w : World) (hT : TabAt 1 Lib.deBruijn64tab w) : Calls Tryz.prog 11 #[] w fun e w' => e = .returned (.bool true) ∧ Below w.heap.size w w' := by
 have HSm := Lib.hid (smp_any w)
 have HT := Lib.hid hT
 have HN := Lib.hid (fun n W => errno_any n W)
 clear hT
 go_enter Tryz.func11, Tryz.ntmps11
 go_wp2_with fail
 refine HSm.out.mono ?_
 rintro e w1 ⟨sa, pa, r0, r1, r3, r4, hIn, rfl, hB1⟩
 have HKA := Lib.hid (knownA hIn (KpG.tab (KpG.below hB1 (lt_of_cell (HT.out 0 (by decide)))) HT.out))
 have HB1 := Lib.hid hB1
 have HGE : Hid (gramV (GSa sa pa r0 r1 r3 r4) = .agg #[.slice (some ⟨sa, 0, none⟩) 3 3, .slice (some ⟨pa, 0, none⟩) 5 5, .int .i64 0, .slice none 0 0, .slice none 0 0]) := Lib.hid rfl
 rw [HGE.out] at HKA ⊢
 have hA : Below w1.heap.size w1 (w1.alloc (.cells #[.slice (some ⟨sa, 0, none⟩) 3 3, .slice (some ⟨pa, 0, none⟩) 5 5, .int .i64 0, .slice none 0 0, .slice none 0 0] 27)) := (Below.refl _ _).alloc (Nat.le_refl _) _
 have HG := Lib.hid (Blk.new w1 27 #[.slice (some ⟨sa, 0, none⟩) 3 3, .slice (some ⟨pa, 0, none⟩) 5 5, .int .i64 0, .slice none 0 0, .slice none 0 0])
 have HA := Lib.hid hA
 clear hB1 hIn hA HSm HGE
 go_wp2_with fail
 with_reducible refine (HKA.out.sh _ HA.out).mono ?_
 rintro e w2 ⟨B2, k2, rfl, hb2, hcs, hlt, hB⟩
 have HG2 := Lib.hid (HG.out.below hB HG.out.lt)
 have HA2 := Lib.hid (HA.out.trans (hB.mono HA.out.size))
 obtain ⟨c0, c1, c2, c3, c4⟩ := cells5s HG2.out
 have lg := HG2.out.lt
 have HS2 := Lib.hid (And.intro hcs hlt)
 clear hB HG HA hcs hlt hb2
 go_wp2_with fail
 with_reducible refine (HKA.out.ci _ HA2.out).mono ?_
 rintro e w3 ⟨B3, rfl, hb3, hk, hB⟩
 have HG3 := Lib.hid (HG2.out.below hB HG2.out.lt)
 have HA3 := Lib.hid (HA2.out.trans (hB.mono HA2.out.size))
 have HS3 : Hid ((w3.cell? ⟨B2, 0, none⟩ = some (.int .i64 1) ∧ w3.cell? ⟨B2, 1, none⟩ = some (.int .i64 0) ∧ w3.cell? ⟨B2, 2, none⟩ = some (.int .i64 (-1))) ∧ B2 < w3.heap.size) := Lib.hid ⟨⟨(hB.cell (p := ⟨B2, 0, none⟩) HS2.out.2).trans HS2.out.1.1, (hB.cell (p := ⟨B2, 1, none⟩) HS2.out.2).trans HS2.out.1.2.1, (hB.cell (p := ⟨B2, 2, none⟩) HS2.out.2).trans HS2.out.1.2.2⟩, Nat.lt_of_lt_of_le HS2.out.2 hB.size⟩
 have HC3 := Lib.hid hk
 obtain ⟨c0, c1, c2, c3, c4⟩ := cells5s HG3.out
 have lg := HG3.out.lt
 clear hB hk hb3 HG2 HA2 HS2
 go_wp2_with fail
 with_reducible refine (HKA.out.nu _ HA3.out).mono ?_
 rintro e w4 ⟨B4, rfl, hb4, hk, hB⟩
 have HG4 := Lib.hid (HG3.out.below hB HG3.out.lt)
 have HA4 := Lib.hid (HA3.out.trans (hB.mono HA3.out.size))
 have HS4 : Hid ((w4.cell? ⟨B2, 0, none⟩ = some (.int .i64 1) ∧ w4.cell? ⟨B2, 1, none⟩ = some (.int .i64 0) ∧ w4.cell? ⟨B2, 2, none⟩ = some (.int .i64 (-1))) ∧ B2 < w4.heap.size) := Lib.hid ⟨⟨(hB.cell (p := ⟨B2, 0, none⟩) HS3.out.2).trans HS3.out.1.1, (hB.cell (p := ⟨B2, 1, none⟩) HS3.out.2).trans HS3.out.1.2.1, (hB.cell (p := ⟨B2, 2, none⟩) HS3.out.2).trans HS3.out.1.2.2⟩, Nat.lt_of_lt_of_le HS3.out.2 hB.size⟩
 have HC4 := Lib.hid (HC3.out.below hB HC3.out.lt)
 have HN4 := Lib.hid hk
 obtain ⟨c0, c1, c2, c3, c4⟩ := cells5s HG4.out
 have lg := HG4.out.lt
 clear hB hk hb4 HG3 HA3 HS3 HC3
 go_wp2_with fail
 with_reducible refine (HKA.out.s0 _ HA4.out).mono ?_
 rintro e w5 ⟨rfl, hB⟩
 have HG5 := Lib.hid (HG4.out.below hB HG4.out.lt)
 have HA5 := Lib.hid (HA4.out.trans (hB.mono HA4.out.size))
 have HS5 : Hid ((w5.cell? ⟨B2, 0, none⟩ = some (.int .i64 1) ∧ w5.cell? ⟨B2, 1, none⟩ = some (.int .i64 0) ∧ w5.cell? ⟨B2, 2, none⟩ = some (.int .i64 (-1))) ∧ B2 < w5.heap.size) := Lib.hid ⟨⟨(hB.cell (p := ⟨B2, 0, none⟩) HS4.out.2).trans HS4.out.1.1, (hB.cell (p := ⟨B2, 1, none⟩) HS4.out.2).trans HS4.out.1.2.1, (hB.cell (p := ⟨B2, 2, none⟩) HS4.out.2).trans HS4.out.1.2.2⟩, Nat.lt_of_lt_of_le HS4.out.2 hB.size⟩
 have HC5 := Lib.hid (HC4.out.below hB HC4.out.lt)
 have HN5 := Lib.hid (HN4.out.below hB HN4.out.lt)
 obtain ⟨c0, c1, c2, c3, c4⟩ := cells5s HG5.out
 have lg := HG5.out.lt
 clear hB HG4 HA4 HS4 HC4 HN4
 go_wp2_with fail
 with_reducible refine (HKA.out.s2 _ HA5.out).mono ?_
 rintro e w6 ⟨rfl, hB⟩
 have HA6 := Lib.hid (HA5.out.trans (hB.mono HA5.out.size))
 obtain ⟨s0, s1, s2⟩ : w6.cell? ⟨B2, 0, none⟩ = some (.int .i64 1) ∧ w6.cell? ⟨B2, 1, none⟩ = some (.int .i64 0) ∧ w6.cell? ⟨B2, 2, none⟩ = some (.int .i64 (-1)) := ⟨(hB.cell (p := ⟨B2, 0, none⟩) HS5.out.2).trans HS5.out.1.1, (hB.cell (p := ⟨B2, 1, none⟩) HS5.out.2).trans HS5.out.1.2.1, (hB.cell (p := ⟨B2, 2, none⟩) HS5.out.2).trans HS5.out.1.2.2⟩
 have sl := Nat.lt_of_lt_of_le HS5.out.2 hB.size
 have hc6 := HC5.out.below hB HC5.out.lt
 have hn6 := HN5.out.below hB HN5.out.lt
 have i0 := hc6.cell 0
 have i1 := hc6.cell 1
 have i2 := hc6.cell 2
 have il := hc6.lt
 have n0 := hn6.cell 0
 have n1 := hn6.cell 1
 have n2 := hn6.cell 2
 have nl := hn6.lt
 simp only [List.getElem?_toArray, List.getElem?_cons_zero, List.getElem?_cons_succ] at i0 i1 i2 n0 n1 n2
 have HBe := Lib.hid (HB1.out.trans (HA6.out.mono HB1.out.size))
 clear hB hc6 hn6 HG5 HA5 HS5 HC5 HN5 HA6 HB1 c0 c1 c2 c3 c4 lg
 go_wp2_with (go_at_call 25; refine (HN.out _ _).mono ?_; rintro e wn ⟨rfl, rfl⟩)
 go_ret
 exact ⟨rfl, HBe.out⟩
end Go.Proofs.YtodnlcbnbkkanaaGreatDoor
end
section
namespace Go.Proofs.YtodnlcbnbkkanaaGreatDoor
open Go Go.RowKit

def vast8P (p : ProdM) : Bool := decide (31 < p.right.length) || decide (200 < p.cons.size)
def vast8 (g : GramM) : Bool := decide (40 < g.sorts.length) || (decide (80 < g.prods.length) || (decide (200 < g.forbid.length) || (decide (200 < g.follow.length) || g.prods.any vast8P)))

set_option maxRecDepth 100000 in
set_option maxHeartbeats 4000000 in
theorem vast8_big (g : GramM) (w : World) (h : 40 < g.sorts.length ∨ 80 < g.prods.length ∨ 200 < g.forbid.length ∨ 200 < g.follow.length) (m1 : g.sorts.length ≤ maxLen) (m2 : g.prods.length ≤ maxLen) (m3 : g.forbid.length ≤ maxLen) (m4 : g.follow.length ≤ maxLen) :
  Calls Tryz.prog 10 #[gramV g] w fun e w' => e = .returned (.bool (vast8 g)) ∧ Below w.heap.size w w' := by
 have HE : Hid (vast8 g = true) := Lib.hid (by unfold vast8; simp only [Bool.or_eq_true, decide_eq_true_eq]; rcases h with h | h | h | h <;> simp [h])
 unfold maxLen at m1 m2 m3 m4
 obtain ⟨q, hq⟩ : ∃ q, q = vast8 g := ⟨_, rfl⟩
 rw [← hq] at HE ⊢
 clear hq
 unfold gramV gramC at *
 generalize g.sorts.length = n1 at *
 generalize g.prods.length = n2 at *
 generalize g.forbid.length = n3 at *
 generalize g.follow.length = n4 at *
 by_cases h1 : 40 < n1
 ·have g1 : (40 : Int) < (n1 : Int) := by omega
  go_enter Tryz.func10, Tryz.ntmps10
  go_wp2
  go_ret
  exact ⟨by rw [HE.out]; rfl, (Below.refl _ w).alloc (Nat.le_refl _) _⟩
 ·have g1 : decide ((40 : Int) < (n1 : Int)) = false := by simp; omega
  by_cases h2 : 80 < n2
  ·have g2 : (80 : Int) < (n2 : Int) := by omega
   clear h
   go_enter Tryz.func10, Tryz.ntmps10
   go_wp2
   go_ret
   exact ⟨by rw [HE.out]; rfl, (Below.refl _ w).alloc (Nat.le_refl _) _⟩
  ·have g2 : decide ((80 : Int) < (n2 : Int)) = false := by simp; omega
   by_cases h3 : 200 < n3
   ·have g3 : (200 : Int) < (n3 : Int) := by omega
    clear h
    go_enter Tryz.func10, Tryz.ntmps10
    go_wp2
    go_ret
    exact ⟨by rw [HE.out]; rfl, (Below.refl _ w).alloc (Nat.le_refl _) _⟩
   ·have g3 : decide ((200 : Int) < (n3 : Int)) = false := by simp; omega
    have g4 : (200 : Int) < (n4 : Int) := by omega
    clear h
    go_enter Tryz.func10, Tryz.ntmps10
    go_wp2
    go_ret
    exact ⟨by rw [HE.out]; rfl, (Below.refl _ w).alloc (Nat.le_refl _) _⟩
set_option maxRecDepth 100000 in
set_option maxHeartbeats 4000000 in
theorem vast8_small (g : GramM) (w : World) (hg : GIn w g) (h1 : g.sorts.length ≤ 40) (h2 : g.prods.length ≤ 80) (h3 : g.forbid.length ≤ 200) (h4 : g.follow.length ≤ 200) (hp : ∀ p, p ∈ g.prods → p.right.length ≤ maxLen ∧ p.cons.size ≤ maxLen) :
  Calls Tryz.prog 10 #[gramV g] w fun e w' => e = .returned (.bool (vast8 g)) ∧ Below w.heap.size w w' := by
 have HP := Lib.hid hg.prods
 have HE : Hid (vast8 g = g.prods.any vast8P) := Lib.hid (by
  unfold vast8
  rw [decide_eq_false (by omega : ¬ 40 < g.sorts.length), decide_eq_false (by omega : ¬ 80 < g.prods.length), decide_eq_false (by omega : ¬ 200 < g.forbid.length), decide_eq_false (by omega : ¬ 200 < g.follow.length)]
  simp)
 obtain ⟨q, hq⟩ : ∃ q, q = vast8 g := ⟨_, rfl⟩
 rw [← hq] at HE ⊢
 have HQ := Lib.hid hp
 clear hq hg hp
 unfold gramV gramC at *
 obtain ⟨n1, hn1⟩ : ∃ n, n = g.sorts.length := ⟨_, rfl⟩
 obtain ⟨n2, hn2⟩ : ∃ n, n = g.prods.length := ⟨_, rfl⟩
 rw [← hn1] at h1 ⊢
 rw [← hn2] at h2 ⊢
 generalize g.forbid.length = n3 at *
 generalize g.follow.length = n4 at *
 have HN1 := Lib.hid hn1
 have HN2 := Lib.hid hn2
 have g1 : decide ((40 : Int) < (n1 : Int)) = false := by simp; omega
 have g2 : decide ((80 : Int) < (n2 : Int)) = false := by simp; omega
 have g3 : decide ((200 : Int) < (n3 : Int)) = false := by simp; omega
 have g4 : decide ((200 : Int) < (n4 : Int)) = false := by simp; omega
 clear hn1 hn2
 go_enter Tryz.func10, Tryz.ntmps10
 go_wp2
 go_loop [3] (fun i => ∃ k : Nat, i = .int .i64 k ∧ k ≤ n2 ∧ Hid (∀ (j : Nat) (x : ProdM), j < k → g.prods[j]? = some x → vast8P x = false)) (fun i => n2 - (intOf i).toNat)
 case atStart => exact ⟨0, rfl, Nat.zero_le _, Lib.hid (fun j x hj => by omega)⟩
 case round =>
  obtain ⟨k, rfl, hk, hS⟩ := hrel
  by_cases hlt : k < n2
  ·obtain ⟨x, hx⟩ : ∃ x, g.prods[k]? = some x := ⟨_, List.getElem?_eq_getElem (by rw [← HN2.out]; exact hlt)⟩
   obtain ⟨b1, o1, e1, hb1, hc1, _⟩ := HP.out k x hx
   obtain ⟨hz1, hz2⟩ := HQ.out x (List.mem_of_getElem? hx)
   obtain ⟨c10, c11, c12, _, _, _, _⟩ := Prod_at hc1
   have E1 := Lib.hid e1
   clear hc1 e1
   have f1 : (k : Int) < (n2 : Int) := by omega
   unfold maxLen at hz1 hz2
   rw [E1.out]
   have HV : Hid (vast8P x = (decide (31 < x.right.length) || decide (200 < x.cons.size))) := Lib.hid rfl
   have HQ2 : Hid (vast8P x = true → q = true) := Lib.hid (fun h => by rw [HE.out, any_yes hx h])
   have HX := Lib.hid hx
   clear hx
   generalize x.right.length = m at *
   by_cases hb : 31 < m
   ·have HE3 : Hid (q = true) := Lib.hid (HQ2.out (by rw [HV.out]; simp [hb]))
    have f2 : (31 : Int) < (m : Int) := by omega
    clear HP HQ hS E1 HX HV HQ2 HE
    go_wp2
    go_ret
    exact ⟨by rw [HE3.out]; rfl, (Below.refl _ w).alloc (Nat.le_refl _) _⟩
   ·have f2 : decide ((31 : Int) < (m : Int)) = false := by simp; omega
    by_cases hb2 : 200 < x.cons.size
    ·have HE3 : Hid (q = true) := Lib.hid (HQ2.out (by rw [HV.out]; simp [hb2]))
     have f3 : (200 : Int) < (x.cons.size : Int) := by omega
     clear HP HQ hS E1 HX HV HQ2 HE
     go_wp2
     go_ret
     exact ⟨by rw [HE3.out]; rfl, (Below.refl _ w).alloc (Nat.le_refl _) _⟩
    ·have HE3 : Hid (vast8P x = false) := Lib.hid (by rw [HV.out, decide_eq_false hb, decide_eq_false hb2]; rfl)
     have f3 : decide ((200 : Int) < (x.cons.size : Int)) = false := by simp; omega
     clear HV HQ2
     go_wp2
     go_round
     case rel => exact ⟨k + 1, by go_num, by omega, Lib.hid (fun j y hj hy => by
      by_cases e : j = k
      ·subst e; rw [HX.out] at hy; cases hy; exact HE3.out
      ·exact hS.out j y (by omega) hy)⟩
     case measure => simp [intOf]; omega
  ·obtain rfl : k = n2 := by omega
   have HE3 : Hid (q = false) := Lib.hid (by
    rw [HE.out]
    exact any_no (fun i x hx => hS.out i x (by have := (List.getElem?_eq_some_iff.1 hx).1; have := HN2.out; omega) hx))
   clear hS HP HE
   go_wp2
   go_ret
   exact ⟨by rw [HE3.out]; rfl, (Below.refl _ w).alloc (Nat.le_refl _) _⟩
theorem AGram.fit8 {w : World} {g : GramM} (h : AGram w g) (hv : vast8 g = false) : FitG g := by
 unfold vast8 at hv
 simp only [Bool.or_eq_false_iff, decide_eq_false_iff_not, List.any_eq_false] at hv
 obtain ⟨h1, h2, h3, h4, h6⟩ := hv
 refine ⟨⟨by omega, by omega, fun x hx => ?_, by omega, by omega, fun f hf => (h.forb f hf).at_, fun s hs => ?_⟩, h.forb, h.fol⟩
 ·have := h6 x hx
  unfold vast8P at this
  simp at this
  omega
 ·have := h.names s hs
  unfold maxLen at this
  omega
theorem vast8_any (g : GramM) (w : World) (h : AGram w g) : Calls Tryz.prog 10 #[gramV g] w fun e w' => e = .returned (.bool (vast8 g)) ∧ Below w.heap.size w w' := by
 by_cases hb : 40 < g.sorts.length ∨ 80 < g.prods.length ∨ 200 < g.forbid.length ∨ 200 < g.follow.length
 ·exact vast8_big g w hb (Nat.le_trans h.sl h.sc) (Nat.le_trans h.pl h.pc) (Nat.le_trans h.fl h.fc) (Nat.le_trans h.wl h.wc)
 ·exact vast8_small g w h.inn (by omega) (by omega) (by omega) (by omega) (fun p hp => ⟨Nat.le_trans (h.prods p hp).len (h.prods p hp).cap, (h.prods p hp).cons⟩)
end Go.Proofs.YtodnlcbnbkkanaaGreatDoor
end
section
namespace Go.Proofs.YtodnlcbnbkkanaaGreatDoor
open Go Go.RowKit

theorem boolsB_same (M : List Bool) : boolsB M M 0 0 = true := by unfold boolsB; simp
theorem AProd.below {w W : World} {p : ProdM} (h : AProd w p) (hB : Below w.heap.size w W) : AProd W p := ⟨h.inn.below hB, h.left, h.role, h.frm, h.cons, h.syms, h.len, h.cap, h.nil⟩
theorem AGram.below {w W : World} {g : GramM} (h : AGram w g) (hB : Below w.heap.size w W) : AGram W g :=
 ⟨h.inn.below hB, h.start, h.names, fun p hp => (h.prods p hp).below hB, h.forb, h.fol, h.sl, h.sc, h.sn, h.pl, h.pc, h.pn, h.fl, h.fc, h.fn, h.wl, h.wc, h.wn⟩
theorem tab_below {w W : World} (h : TabAt 1 Lib.deBruijn64tab w) (hB : Below w.heap.size w W) : TabAt 1 Lib.deBruijn64tab W := KpG.tab (KpG.below hB (lt_of_cell (h 0 (by decide)))) h
end Go.Proofs.YtodnlcbnbkkanaaGreatDoor
end
section
namespace Go.Proofs.YtodnlcbnbkkanaaGreatDoor
open Go Go.RowKit

theorem cells3g {W : World} {B t : Nat} {a b c : Value} (h : Blk W B t #[a, b, c]) : W.cell? ⟨B, 0, none⟩ = some a ∧ W.cell? ⟨B, 1, none⟩ = some b ∧ W.cell? ⟨B, 2, none⟩ = some c := ⟨h.cell 0, h.cell 1, h.cell 2⟩

set_option maxRecDepth 100000 in
set_option maxHeartbeats 4000000 in
theorem rforbid_any (g : GramM) (f : ForM) (w : World) (hg : GIn w g) (hn : g.prods.length ≤ 1048576) (hr : ∀ x, x ∈ g.prods → x.right.length ≤ 1048576) (hf : FitF f) : Calls Tryz.prog 43 #[gramV g, forV f] w fun e w' => e = .returned (.bool (forbidB g f)) ∧ Below w.heap.size w w' := by
 have T := Lib.hid (TwoG.start w (gramC g) 85 (forC f))
 have hB := T.out.bl
 have HBf := Lib.hid hB
 have HG := Lib.hid hg
 have HR := Lib.hid hr
 obtain ⟨q, hq⟩ : ∃ q, q = forbidB g f := ⟨_, rfl⟩
 rw [← hq]
 unfold forbidB at hq
 obtain ⟨pa, at_, ch⟩ := f
 obtain ⟨_, ⟨hat0, hat1⟩, _⟩ := hf
 dsimp only at *
 have HQ := Lib.hid hq
 clear hq hg hr hB
 obtain ⟨n, hn'⟩ : ∃ n : Nat, n = g.prods.length := ⟨_, rfl⟩
 have HN := Lib.hid hn'
 rw [← hn'] at hn
 unfold gramV gramC forV forC at *
 dsimp only at *
 rw [← hn'] at T HBf ⊢
 clear hn'
 by_cases h1 : pa < 0
 ·have HE : Hid (q = false) := Lib.hid (by rw [HQ.out]; unfold numB; rw [decide_eq_false (by omega : ¬ 0 ≤ pa)]; simp only [Bool.false_and])
  clear HQ
  go_enter Tryz.func43, Tryz.ntmps43
  go_wp2
  go_ret
  exact ⟨by rw [HE.out]; rfl, HBf.out⟩
 ·have d1 : decide (pa < 0) = false := by simpa using h1
  by_cases h2 : (n : Int) ≤ pa
  ·have HE : Hid (q = false) := Lib.hid (by rw [HQ.out, ← HN.out]; unfold numB; rw [decide_eq_false (by omega : ¬ pa < (n : Int))]; simp only [Bool.false_and, Bool.and_false])
   have d2 : decide ((n : Int) ≤ pa) = true := by simpa using h2
   clear HQ h1 h2
   go_enter Tryz.func43, Tryz.ntmps43
   go_wp2
   go_ret
   exact ⟨by rw [HE.out]; rfl, HBf.out⟩
  ·have d2 : decide ((n : Int) ≤ pa) = false := by simpa using h2
   by_cases h3 : ch < 0
   ·have HE : Hid (q = false) := Lib.hid (by rw [HQ.out]; unfold numB; rw [decide_eq_false (by omega : ¬ 0 ≤ ch)]; simp only [Bool.false_and, Bool.and_false])
    clear HQ h1 h2
    go_enter Tryz.func43, Tryz.ntmps43
    go_wp2
    go_ret
    exact ⟨by rw [HE.out]; rfl, HBf.out⟩
   ·have d3 : decide (ch < 0) = false := by simpa using h3
    by_cases h4 : (n : Int) ≤ ch
    ·have HE : Hid (q = false) := Lib.hid (by rw [HQ.out, ← HN.out]; unfold numB; rw [decide_eq_false (by omega : ¬ ch < (n : Int))]; simp only [Bool.false_and, Bool.and_false])
     have d4 : decide ((n : Int) ≤ ch) = true := by simpa using h4
     clear HQ h1 h2 h3 h4
     go_enter Tryz.func43, Tryz.ntmps43
     go_wp2
     go_ret
     exact ⟨by rw [HE.out]; rfl, HBf.out⟩
    ·have d4 : decide ((n : Int) ≤ ch) = false := by simpa using h4
     obtain ⟨i, rfl⟩ : ∃ i : Nat, pa = i := ⟨pa.toNat, by omega⟩
     obtain ⟨j, rfl⟩ : ∃ i : Nat, ch = i := ⟨ch.toNat, by omega⟩
     have hi : i < n := by omega
     have hj : j < n := by omega
     obtain ⟨P, hP⟩ : ∃ x, g.prods[i]? = some x := ⟨_, List.getElem?_eq_getElem (by rw [← HN.out]; exact hi)⟩
     obtain ⟨C, hC⟩ : ∃ x, g.prods[j]? = some x := ⟨_, List.getElem?_eq_getElem (by rw [← HN.out]; exact hj)⟩
     have HQ2 : Hid (q = standB P at_ C) := Lib.hid (by rw [HQ.out, ← HN.out, Int.toNat_natCast, Int.toNat_natCast, hP, hC]; unfold numB; simp [hi, hj])
     obtain ⟨b1, o1, e1, hb1, hc1, hi1⟩ := HG.out.prods i P hP
     obtain ⟨b2, o2, e2, hb2, hc2, _⟩ := HG.out.prods j C hC
     obtain rfl : b1 = b2 := by rw [e1] at e2; simpa using congrArg (fun a => a.map (·.block)) e2
     obtain rfl : o1 = o2 := by rw [e1] at e2; simpa using congrArg (fun a => a.map (·.off)) e2
     have hPl := HR.out P (List.mem_of_getElem? hP)
     obtain ⟨x0, x1, _, x3, _, _, _⟩ := Prod_at (hc1.below T.out.bl hb1)
     obtain ⟨y0, _, _, y3, _, _, _⟩ := Prod_at (hc2.below T.out.bl hb1)
     have hb1' := Nat.lt_of_lt_of_le hb1 T.out.bl.size
     have z1 : (i : Int) < (n : Int) := by omega
     have z2 : (j : Int) < (n : Int) := by omega
     have HI1 := Lib.hid hi1
     rw [e1] at T x0 x1 x3 y0 y3 hb1' ⊢
     clear HQ hP hC hc1 hc2 e1 e2 hi1 h1 h2 h3 h4
     obtain ⟨c0, c1, c2, c3, c4⟩ := cells5' T.out.b0
     obtain ⟨p0, p1, p2⟩ := cells3g T.out.b1
     have l0 := T.out.b0.lt
     have l1 := T.out.b1.lt
     obtain ⟨W, hW⟩ : ∃ W, W = (w.alloc (.cells #[.slice g.sa g.sorts.length g.sc, .slice (some ⟨b1, o1, none⟩) n g.pc, .int .i64 g.start, .slice g.fa g.forbid.length g.fc, .slice g.wa g.follow.length g.wc] 27)).alloc (.cells #[.int .i64 (i : Int), .int .i64 at_, .int .i64 (j : Int)] 85) := ⟨_, rfl⟩
     rw [← hW] at c0 c1 c2 c3 c4 p0 p1 p2 l0 l1 x0 x1 x3 y0 y3 hb1' T
     have HW := Lib.hid hW
     clear hW HBf
     have HBf := Lib.hid T.out.bl
     by_cases h5 : P.role = 11
     ·have HE : Hid (q = false) := Lib.hid (by rw [HQ2.out]; unfold standB; simp [h5])
      have k5 : (P.role == 11) = true := by simpa using h5
      clear HQ2 h5
      go_enter Tryz.func43, Tryz.ntmps43
      go_upto_region 1 with fail
      rw [← HW.out]
      go_wp2
      go_ret
      exact ⟨by rw [HE.out]; rfl, HBf.out⟩
     ·have k5 : (P.role == 11) = false := by simpa using h5
      by_cases h6 : C.role = 11
      ·have HE : Hid (q = false) := Lib.hid (by rw [HQ2.out]; unfold standB; simp [h6])
       have k6 : (C.role == 11) = true := by simpa using h6
       clear HQ2 h5 h6
       go_enter Tryz.func43, Tryz.ntmps43
       go_upto_region 1 with fail
       rw [← HW.out]
       go_wp2
       go_ret
       exact ⟨by rw [HE.out]; rfl, HBf.out⟩
      ·have k6 : (C.role == 11) = false := by simpa using h6
       by_cases h7 : at_ < 1
       ·have HE : Hid (q = false) := Lib.hid (by rw [HQ2.out]; unfold standB numB; rw [decide_eq_false (by omega : ¬ 0 ≤ at_ - 1)]; simp only [Bool.false_and, Bool.and_false])
        have k7 : decide (at_ < 1) = true := by simpa using h7
        clear HQ2 h5 h6 h7
        go_enter Tryz.func43, Tryz.ntmps43
        go_upto_region 1 with fail
        rw [← HW.out]
        go_wp2
        go_region
        go_wp2
        go_ret
        exact ⟨by rw [HE.out]; rfl, HBf.out.drew⟩
       ·have k7 : decide (at_ < 1) = false := by simpa using h7
        by_cases h8 : (P.right.length : Int) < at_
        ·have HE : Hid (q = false) := Lib.hid (by rw [HQ2.out]; unfold standB numB; rw [decide_eq_false (by omega : ¬ at_ - 1 < (P.right.length : Int))]; simp only [Bool.false_and, Bool.and_false])
         have k8 : decide ((P.right.length : Int) < at_) = true := by simpa using h8
         clear HQ2 h5 h6 h7 h8
         go_enter Tryz.func43, Tryz.ntmps43
         go_upto_region 1 with fail
         rw [← HW.out]
         go_wp2
         go_region
         go_wp2
         go_ret
         exact ⟨by rw [HE.out]; rfl, HBf.out.drew⟩
        ·have k8 : decide ((P.right.length : Int) < at_) = false := by simpa using h8
         obtain ⟨k, rfl⟩ : ∃ k : Nat, at_ = (k : Int) + 1 := ⟨(at_ - 1).toNat, by omega⟩
         obtain ⟨s, hs⟩ : ∃ s, P.right[k]? = some s := ⟨_, List.getElem?_eq_getElem (by omega)⟩
         have HQ3 : Hid (q = (s.kind == 1 && s.sort == C.left)) := Lib.hid (by rw [HQ2.out]; unfold standB numB; rw [k5, k6, show ((k : Int) + 1 - 1) = (k : Int) by omega, Int.toNat_natCast, hs]; simp; intro _ _; omega)
         obtain ⟨b3, o3, e3, hb3, hc3, _⟩ := HI1.out k s hs
         obtain ⟨s0, s1, s2, s3, s4, s5⟩ := Sym_at (hc3.below HBf.out hb3)
         have hb3' := Nat.lt_of_lt_of_le hb3 HBf.out.size
         have z3 : (k : Int) < (P.right.length : Int) := by omega
         have d5 : decide (n ≤ i) = false := by simp; omega
         have d6 : decide (n ≤ j) = false := by simp; omega
         rw [e3] at x1
         clear HQ2 h5 h6 h7 h8 hs hc3 e3 hat0 hat1
         cases k9 : (s.kind == 1) with
         | false =>
          have HQ4 : Hid (q = false) := Lib.hid (by rw [HQ3.out, k9]; rfl)
          clear HQ3
          go_enter Tryz.func43, Tryz.ntmps43
          go_upto_region 1 with fail
          rw [← HW.out]
          go_wp2
          go_region
          have z4 : IntKind.i64.wrap ((k : Int) + 1 - 1) = (k : Int) := by rw [show ((k : Int) + 1 - 1) = (k : Int) by omega]; exact IntWalk.i64_in _ (by omega)
          have z5 : IntKind.i64.wrap (k : Int) = (k : Int) := IntWalk.i64_in _ (by omega)
          go_wp2
          go_region
          go_wp2
          go_region
          go_wp2
          go_ret
          exact ⟨by rw [HQ4.out]; try rfl, (HBf.out.drew.alloc HBf.out.size _).drew.drew⟩
         | true =>
          have HQ4 : Hid (q = (s.sort == C.left)) := Lib.hid (by rw [HQ3.out, k9]; rfl)
          clear HQ3
          go_enter Tryz.func43, Tryz.ntmps43
          go_upto_region 1 with fail
          rw [← HW.out]
          go_wp2
          go_region
          have z4 : IntKind.i64.wrap ((k : Int) + 1 - 1) = (k : Int) := by rw [show ((k : Int) + 1 - 1) = (k : Int) by omega]; exact IntWalk.i64_in _ (by omega)
          have z5 : IntKind.i64.wrap (k : Int) = (k : Int) := IntWalk.i64_in _ (by omega)
          go_wp2
          go_region
          go_wp2
          go_region
          go_wp2
          go_ret
          exact ⟨by rw [HQ4.out]; try rfl, (HBf.out.drew.alloc HBf.out.size _).drew.drew⟩
end Go.Proofs.YtodnlcbnbkkanaaGreatDoor
end
section
namespace Go.Vals
open Go

section
variable {P : Program} {ops : Array Oper} {N : World → World → Prop} {F : Array Value} {loose : List Tmp} {p : Tmp → Value → World → Prop} {S : World → Prop} {ds : List Deferred} {o : Oper} {l : List Oper}

end
end Go.Vals
end
