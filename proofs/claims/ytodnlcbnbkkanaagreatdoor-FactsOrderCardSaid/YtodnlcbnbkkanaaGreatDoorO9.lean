import Derived.Test.YtodnlcbnbkkanaaGreatDoorO1
import Derived.Test.YtodnlcbnbkkanaaGreatDoorO4
import Derived.Test.YtodnlcbnbkkanaaGreatDoorO8
section
namespace Go.Proofs.YtodnlcbnbkkanaaGreatDoor
open Go Go.RowKit

theorem row_blk {α : Type} {cs : α → Array Value} {k : Nat} {G : World → α → Prop} (hk : ∀ x, (cs x).size = k) {W : World} {B t : Nat} {c : Array Value} {l : List α} (h : Blk W B t c) (hc : c.toList = cellsL cs l) (hG : ∀ x, x ∈ l → G W x) :
    RowOf k cs G W (some ⟨B, 0, none⟩) l := fun i x hx => by
  refine ⟨B, 0, rfl, h.lt, fun j v hv => ?_, hG x (List.mem_of_getElem? hx)⟩
  have hj : j < k := by
    have := (Array.getElem?_eq_some_iff.1 hv).1
    rw [hk] at this; exact this
  rw [Nat.zero_add, h.cell, ← Array.getElem?_toList, hc, cellsL_at hk l i x hx j hj]
  exact hv
structure GSIn (w : World) (sa pa r0 r1 r3 r4 : Nat) : Prop where
  s : Blk w sa 9 #[.string ⟨#[83]⟩, .string ⟨#[65]⟩, .string ⟨#[66]⟩]
  p : Blk w pa 65 #[.int .i64 0, .slice (some ⟨r0, 0, none⟩) 2 2, .string ⟨#[]⟩, .int .i64 0, .bool false, .bool false, .int .i64 (-1), .int .i64 0, .slice (some ⟨r1, 0, none⟩) 1 1, .string ⟨#[]⟩, .int .i64 0, .bool false, .bool false, .int .i64 (-1), .int .i64 1, .slice none 0 0, .string ⟨#[]⟩, .int .i64 0, .bool false, .bool false, .int .i64 (-1), .int .i64 1, .slice (some ⟨r3, 0, none⟩) 2 2, .string ⟨#[]⟩, .int .i64 0, .bool false, .bool false, .int .i64 (-1), .int .i64 2, .slice (some ⟨r4, 0, none⟩) 1 1, .string ⟨#[]⟩, .int .i64 0, .bool false, .bool false, .int .i64 (-1)]
  a0 : Blk w r0 60 (symC ⟨1, 0, 1⟩ ++ symC ⟨1, 0, 0⟩)
  a1 : Blk w r1 60 (symC ⟨0, lx, 0⟩)
  a3 : Blk w r3 60 (symC ⟨0, la, 0⟩ ++ symC ⟨1, 0, 1⟩)
  a4 : Blk w r4 60 (symC ⟨1, 0, 2⟩)
def GSa (sa pa r0 r1 r3 r4 : Nat) : GramM := GS (some ⟨sa, 0, none⟩) (some ⟨pa, 0, none⟩) (some ⟨r0, 0, none⟩) (some ⟨r1, 0, none⟩) (some ⟨r3, 0, none⟩) (some ⟨r4, 0, none⟩)
theorem GSIn.inn {w : World} {sa pa r0 r1 r3 r4 : Nat} (h : GSIn w sa pa r0 r1 r3 r4) : GIn w (GSa sa pa r0 r1 r3 r4) := by
  refine ⟨row_blk (cs := strC) (k := 1) (fun _ => rfl) h.s (by simp [cellsL, strC, GSa, GS]) (fun _ _ => trivial), row_blk (cs := prodC) (k := 7) (fun _ => rfl) h.p (by simp [cellsL, prodC, GSa, GS]) (fun x hx => ?_), RowOf.nil _, RowOf.nil _⟩
  rcases GS_mem _ _ _ _ _ _ hx with rfl | rfl | rfl | rfl | rfl
  · exact row_blk (cs := symC) (k := 6) (fun _ => rfl) h.a0 (by simp [cellsL]) (fun _ _ => trivial)
  · exact row_blk (cs := symC) (k := 6) (fun _ => rfl) h.a1 (by simp [cellsL]) (fun _ _ => trivial)
  · exact RowOf.nil _
  · exact row_blk (cs := symC) (k := 6) (fun _ => rfl) h.a3 (by simp [cellsL]) (fun _ _ => trivial)
  · exact row_blk (cs := symC) (k := 6) (fun _ => rfl) h.a4 (by simp [cellsL]) (fun _ _ => trivial)
theorem GSIn.below {w W : World} {sa pa r0 r1 r3 r4 : Nat} (h : GSIn w sa pa r0 r1 r3 r4) (hB : Below w.heap.size w W) : GSIn W sa pa r0 r1 r3 r4 :=
  ⟨h.s.below hB h.s.lt, h.p.below hB h.p.lt, h.a0.below hB h.a0.lt, h.a1.below hB h.a1.lt, h.a3.below hB h.a3.lt, h.a4.below hB h.a4.lt⟩
theorem GS_fit (sa pa r0 r1 r3 r4 : Nat) : FitG (GSa sa pa r0 r1 r3 r4) := by
  refine ⟨⟨by simp [GSa, GS], by simp [GSa, GS], fun x hx => ?_, by simp [GSa, GS], by simp [GSa, GS], fun f hf => by simp [GSa, GS] at hf, fun s hs => ?_⟩, fun f hf => by simp [GSa, GS] at hf, fun f hf => by simp [GSa, GS] at hf⟩
  · rcases GS_mem _ _ _ _ _ _ hx with rfl | rfl | rfl | rfl | rfl <;> simp
  · simp only [GSa, GS, List.mem_cons, List.not_mem_nil, or_false] at hs
    rcases hs with rfl | rfl | rfl <;> decide
theorem cells5s {W : World} {B t : Nat} {u0 u1 u2 u3 u4 : Value} (h : Blk W B t #[u0, u1, u2, u3, u4]) : W.cell? ⟨B, 0, none⟩ = some u0 ∧ W.cell? ⟨B, 1, none⟩ = some u1 ∧ W.cell? ⟨B, 2, none⟩ = some u2 ∧ W.cell? ⟨B, 3, none⟩ = some u3 ∧ W.cell? ⟨B, 4, none⟩ = some u4 :=
  ⟨h.cell 0, h.cell 1, h.cell 2, h.cell 3, h.cell 4⟩
def SmpPost (w : World) (e : Ending) (w' : World) : Prop := ∃ sa pa r0 r1 r3 r4, GSIn w' sa pa r0 r1 r3 r4 ∧ e = .returned (gramV (GSa sa pa r0 r1 r3 r4)) ∧ Below w.heap.size w w'

set_option maxRecDepth 100000 in
set_option maxHeartbeats 4000000 in
theorem smp_any (w : World) : Calls Tryz.prog 40 #[] w (SmpPost w) := by
  have HS := Lib.hid (fun i W => sortSym_any i W)
  have HLx := Lib.hid one_x
  have HLa := Lib.hid one_a
  obtain ⟨z, hz⟩ : ∃ z : BS, z = 0 := ⟨_, rfl⟩
  obtain ⟨bx, hbx⟩ : ∃ z : BS, z = lx := ⟨_, rfl⟩
  obtain ⟨ba, hba⟩ : ∃ z : BS, z = la := ⟨_, rfl⟩
  rw [← hz] at HS
  rw [← hbx] at HLx
  rw [← hba] at HLa
  have HZ := Lib.hid hz
  have HX := Lib.hid hbx
  have HA := Lib.hid hba
  clear hz hbx hba
  unfold symV symC at HS HLx HLa
  go_enter Tryz.func40, Tryz.ntmps40
  go_wp2_with fail
  have HB0 : Hid (Below w.heap.size w ((w.alloc (.cells #[.slice none 0 0, .slice none 0 0, .int .i64 0, .slice none 0 0, .slice none 0 0] 27)).alloc (.cells #[.string ⟨#[83]⟩, .string ⟨#[65]⟩, .string ⟨#[66]⟩] 9))) := Lib.hid (((Below.refl _ _).alloc (Nat.le_refl _) _).alloc (by simp) _)
  have HG0 : Hid (Blk ((w.alloc (.cells #[.slice none 0 0, .slice none 0 0, .int .i64 0, .slice none 0 0, .slice none 0 0] 27)).alloc (.cells #[.string ⟨#[83]⟩, .string ⟨#[65]⟩, .string ⟨#[66]⟩] 9)) w.heap.size 27 #[.slice none 0 0, .slice none 0 0, .int .i64 0, .slice none 0 0, .slice none 0 0]) := Lib.hid ((Blk.new w 27 _).alloc _)
  have HK0 : Hid (Blk ((w.alloc (.cells #[.slice none 0 0, .slice none 0 0, .int .i64 0, .slice none 0 0, .slice none 0 0] 27)).alloc (.cells #[.string ⟨#[83]⟩, .string ⟨#[65]⟩, .string ⟨#[66]⟩] 9)) (w.heap.size + 1) 9 #[.string ⟨#[83]⟩, .string ⟨#[65]⟩, .string ⟨#[66]⟩]) := Lib.hid (by
    have h := Blk.new (w.alloc (.cells #[.slice none 0 0, .slice none 0 0, .int .i64 0, .slice none 0 0, .slice none 0 0] 27)) 9 #[.string ⟨#[83]⟩, .string ⟨#[65]⟩, .string ⟨#[66]⟩]
    rw [World.size_alloc] at h
    exact h)
  with_reducible refine (HS.out 1 _).mono ?_
  rintro e w1 ⟨rfl, hB1⟩
  have HG1 := Lib.hid (HG0.out.below hB1 HG0.out.lt)
  have HK1 := Lib.hid (HK0.out.below hB1 HK0.out.lt)
  have HB1 := Lib.hid (HB0.out.trans (hB1.mono HB0.out.size))
  clear hB1 HG0 HK0 HB0
  go_wp2_with fail
  with_reducible refine (HS.out 0 _).mono ?_
  rintro e w2 ⟨rfl, hB2⟩
  have HG2 := Lib.hid (HG1.out.below hB2 HG1.out.lt)
  have HK2 := Lib.hid (HK1.out.below hB2 HK1.out.lt)
  have HB2 := Lib.hid (HB1.out.trans (hB2.mono HB1.out.size))
  clear hB2 HG1 HK1 HB1
  have hA2 : Below w2.heap.size w2 (w2.alloc (.cells #[.int .i64 1, .int .u64 (wdI z 0), .int .u64 (wdI z 1), .int .u64 (wdI z 2), .int .u64 (wdI z 3), .int .i64 1, .int .i64 1, .int .u64 (wdI z 0), .int .u64 (wdI z 1), .int .u64 (wdI z 2), .int .u64 (wdI z 3), .int .i64 0] 60)) := (Below.refl _ _).alloc (Nat.le_refl _) _
  have HG2a := Lib.hid (HG2.out.below hA2 HG2.out.lt)
  have HK2a := Lib.hid (HK2.out.below hA2 HK2.out.lt)
  have HR2a := Lib.hid (Blk.new w2 60 #[.int .i64 1, .int .u64 (wdI z 0), .int .u64 (wdI z 1), .int .u64 (wdI z 2), .int .u64 (wdI z 3), .int .i64 1, .int .i64 1, .int .u64 (wdI z 0), .int .u64 (wdI z 1), .int .u64 (wdI z 2), .int .u64 (wdI z 3), .int .i64 0])
  have HB2a := Lib.hid (HB2.out.trans (hA2.mono HB2.out.size))
  clear hA2 HG2 HK2 HB2
  have HG2 := HG2a
  clear HG2a
  have HK2 := HK2a
  clear HK2a
  have HR2 := HR2a
  clear HR2a
  have HB2 := HB2a
  clear HB2a
  go_wp2_with fail
  with_reducible refine (HLx.out _).mono ?_
  rintro e w3 ⟨rfl, hB3⟩
  have HG3 := Lib.hid (HG2.out.below hB3 HG2.out.lt)
  have HK3 := Lib.hid (HK2.out.below hB3 HK2.out.lt)
  have HR3 := Lib.hid (HR2.out.below hB3 HR2.out.lt)
  have HB3 := Lib.hid (HB2.out.trans (hB3.mono HB2.out.size))
  clear hB3 HG2 HK2 HR2 HB2
  have hA3 : Below w3.heap.size w3 (w3.alloc (.cells #[.int .i64 0, .int .u64 (wdI bx 0), .int .u64 (wdI bx 1), .int .u64 (wdI bx 2), .int .u64 (wdI bx 3), .int .i64 0] 60)) := (Below.refl _ _).alloc (Nat.le_refl _) _
  have HG3a := Lib.hid (HG3.out.below hA3 HG3.out.lt)
  have HK3a := Lib.hid (HK3.out.below hA3 HK3.out.lt)
  have HR3a := Lib.hid (HR3.out.below hA3 HR3.out.lt)
  have HT3a := Lib.hid (Blk.new w3 60 #[.int .i64 0, .int .u64 (wdI bx 0), .int .u64 (wdI bx 1), .int .u64 (wdI bx 2), .int .u64 (wdI bx 3), .int .i64 0])
  have HB3a := Lib.hid (HB3.out.trans (hA3.mono HB3.out.size))
  clear hA3 HG3 HK3 HR3 HB3
  have HG3 := HG3a
  clear HG3a
  have HK3 := HK3a
  clear HK3a
  have HR3 := HR3a
  clear HR3a
  have HT3 := HT3a
  clear HT3a
  have HB3 := HB3a
  clear HB3a
  go_wp2_with fail
  with_reducible refine (HLa.out _).mono ?_
  rintro e w4 ⟨rfl, hB4⟩
  have HG4 := Lib.hid (HG3.out.below hB4 HG3.out.lt)
  have HK4 := Lib.hid (HK3.out.below hB4 HK3.out.lt)
  have HR4 := Lib.hid (HR3.out.below hB4 HR3.out.lt)
  have HT4 := Lib.hid (HT3.out.below hB4 HT3.out.lt)
  have HB4 := Lib.hid (HB3.out.trans (hB4.mono HB3.out.size))
  clear hB4 HG3 HK3 HR3 HT3 HB3
  go_wp2_with fail
  with_reducible refine (HS.out 1 _).mono ?_
  rintro e w5 ⟨rfl, hB5⟩
  have HG5 := Lib.hid (HG4.out.below hB5 HG4.out.lt)
  have HK5 := Lib.hid (HK4.out.below hB5 HK4.out.lt)
  have HR5 := Lib.hid (HR4.out.below hB5 HR4.out.lt)
  have HT5 := Lib.hid (HT4.out.below hB5 HT4.out.lt)
  have HB5 := Lib.hid (HB4.out.trans (hB5.mono HB4.out.size))
  clear hB5 HG4 HK4 HR4 HT4 HB4
  have hA5 : Below w5.heap.size w5 (w5.alloc (.cells #[.int .i64 0, .int .u64 (wdI ba 0), .int .u64 (wdI ba 1), .int .u64 (wdI ba 2), .int .u64 (wdI ba 3), .int .i64 0, .int .i64 1, .int .u64 (wdI z 0), .int .u64 (wdI z 1), .int .u64 (wdI z 2), .int .u64 (wdI z 3), .int .i64 1] 60)) := (Below.refl _ _).alloc (Nat.le_refl _) _
  have HG5a := Lib.hid (HG5.out.below hA5 HG5.out.lt)
  have HK5a := Lib.hid (HK5.out.below hA5 HK5.out.lt)
  have HR5a := Lib.hid (HR5.out.below hA5 HR5.out.lt)
  have HT5a := Lib.hid (HT5.out.below hA5 HT5.out.lt)
  have HU5a := Lib.hid (Blk.new w5 60 #[.int .i64 0, .int .u64 (wdI ba 0), .int .u64 (wdI ba 1), .int .u64 (wdI ba 2), .int .u64 (wdI ba 3), .int .i64 0, .int .i64 1, .int .u64 (wdI z 0), .int .u64 (wdI z 1), .int .u64 (wdI z 2), .int .u64 (wdI z 3), .int .i64 1])
  have HB5a := Lib.hid (HB5.out.trans (hA5.mono HB5.out.size))
  clear hA5 HG5 HK5 HR5 HT5 HB5
  have HG5 := HG5a
  clear HG5a
  have HK5 := HK5a
  clear HK5a
  have HR5 := HR5a
  clear HR5a
  have HT5 := HT5a
  clear HT5a
  have HU5 := HU5a
  clear HU5a
  have HB5 := HB5a
  clear HB5a
  go_wp2_with fail
  with_reducible refine (HS.out 2 _).mono ?_
  rintro e w6 ⟨rfl, hB6⟩
  have HG6 := Lib.hid (HG5.out.below hB6 HG5.out.lt)
  have HK6 := Lib.hid (HK5.out.below hB6 HK5.out.lt)
  have HR6 := Lib.hid (HR5.out.below hB6 HR5.out.lt)
  have HT6 := Lib.hid (HT5.out.below hB6 HT5.out.lt)
  have HU6 := Lib.hid (HU5.out.below hB6 HU5.out.lt)
  have HB6 := Lib.hid (HB5.out.trans (hB6.mono HB5.out.size))
  clear hB6 HG5 HK5 HR5 HT5 HU5 HB5
  have f0 := HG6.out.frozen 0
  have f1 := HG6.out.frozen 1
  have f2 := HG6.out.frozen 2
  have f3 := HG6.out.frozen 3
  have f4 := HG6.out.frozen 4
  obtain ⟨c0, c1, c2, c3, c4⟩ := cells5s HG6.out
  have lg := HG6.out.lt
  go_wp2
  obtain ⟨V, hV⟩ : ∃ V, V = (((((w6.setCell ⟨w.heap.size, 0, none⟩ (.slice (some ⟨w.heap.size + 1, 0, none⟩) 3 3)).setCell ⟨w.heap.size, 1, none⟩ (.slice (some ⟨w6.heap.size + 1, 0, none⟩) 5 5)).setCell ⟨w.heap.size, 2, none⟩ (.int .i64 0)).setCell ⟨w.heap.size, 3, none⟩ (.slice none 0 0)).setCell ⟨w.heap.size, 4, none⟩ (.slice none 0 0)) := ⟨_, rfl⟩
  have hvs : V.heap.size = w6.heap.size := by rw [hV]; simp only [World.size_setCell]
  have hG : Blk V w.heap.size 27 #[.slice (some ⟨w.heap.size + 1, 0, none⟩) 3 3, .slice (some ⟨w6.heap.size + 1, 0, none⟩) 5 5, .int .i64 0, .slice none 0 0, .slice none 0 0] := by
    have h := ((((HG6.out.set 0 (.slice (some ⟨w.heap.size + 1, 0, none⟩) 3 3)).set 1 (.slice (some ⟨w6.heap.size + 1, 0, none⟩) 5 5)).set 2 (.int .i64 0)).set 3 (.slice none 0 0)).set 4 (.slice none 0 0)
    rw [hV]
    exact h
  have hkn := blk_ne HK6.out HG6.out (by decide)
  have HK7 := Lib.hid (show Blk V _ _ _ by rw [hV]; exact ((((HK6.out.other hkn _).other hkn _).other hkn _).other hkn _).other hkn _)
  have hrn := blk_ne HR6.out HG6.out (by decide)
  have HR7 := Lib.hid (show Blk V _ _ _ by rw [hV]; exact ((((HR6.out.other hrn _).other hrn _).other hrn _).other hrn _).other hrn _)
  have htn := blk_ne HT6.out HG6.out (by decide)
  have HT7 := Lib.hid (show Blk V _ _ _ by rw [hV]; exact ((((HT6.out.other htn _).other htn _).other htn _).other htn _).other htn _)
  have hun := blk_ne HU6.out HG6.out (by decide)
  have HU7 := Lib.hid (show Blk V _ _ _ by rw [hV]; exact ((((HU6.out.other hun _).other hun _).other hun _).other hun _).other hun _)
  have hB7 : Below w.heap.size w V := by rw [hV]; exact ((((HB6.out.setCell (p := ⟨w.heap.size, 0, none⟩) (Nat.le_refl _) _).setCell (p := ⟨w.heap.size, 1, none⟩) (Nat.le_refl _) _).setCell (p := ⟨w.heap.size, 2, none⟩) (Nat.le_refl _) _).setCell (p := ⟨w.heap.size, 3, none⟩) (Nat.le_refl _) _).setCell (p := ⟨w.heap.size, 4, none⟩) (Nat.le_refl _) _
  rw [← hV]
  obtain ⟨W7, hW7⟩ : ∃ W, W = (V.alloc (.cells #[.int .i64 1, .int .u64 (wdI z 0), .int .u64 (wdI z 1), .int .u64 (wdI z 2), .int .u64 (wdI z 3), .int .i64 2] 60)).alloc (.cells #[.int .i64 0, .slice (some ⟨w2.heap.size, 0, none⟩) 2 2, .string ⟨#[]⟩, .int .i64 0, .bool false, .bool false, .int .i64 (-1), .int .i64 0, .slice (some ⟨w3.heap.size, 0, none⟩) 1 1, .string ⟨#[]⟩, .int .i64 0, .bool false, .bool false, .int .i64 (-1), .int .i64 1, .slice none 0 0, .string ⟨#[]⟩, .int .i64 0, .bool false, .bool false, .int .i64 (-1), .int .i64 1, .slice (some ⟨w5.heap.size, 0, none⟩) 2 2, .string ⟨#[]⟩, .int .i64 0, .bool false, .bool false, .int .i64 (-1), .int .i64 2, .slice (some ⟨w6.heap.size, 0, none⟩) 1 1, .string ⟨#[]⟩, .int .i64 0, .bool false, .bool false, .int .i64 (-1)] 65) := ⟨_, rfl⟩
  have hA7 : Below V.heap.size V W7 := by rw [hW7]; exact ((Below.refl _ _).alloc (Nat.le_refl _) _).alloc (by simp) _
  have hv7 : Blk W7 w6.heap.size 60 #[.int .i64 1, .int .u64 (wdI z 0), .int .u64 (wdI z 1), .int .u64 (wdI z 2), .int .u64 (wdI z 3), .int .i64 2] := by rw [hW7, ← hvs]; exact (Blk.new V 60 _).alloc _
  have hp7 : Blk W7 (w6.heap.size + 1) 65 #[.int .i64 0, .slice (some ⟨w2.heap.size, 0, none⟩) 2 2, .string ⟨#[]⟩, .int .i64 0, .bool false, .bool false, .int .i64 (-1), .int .i64 0, .slice (some ⟨w3.heap.size, 0, none⟩) 1 1, .string ⟨#[]⟩, .int .i64 0, .bool false, .bool false, .int .i64 (-1), .int .i64 1, .slice none 0 0, .string ⟨#[]⟩, .int .i64 0, .bool false, .bool false, .int .i64 (-1), .int .i64 1, .slice (some ⟨w5.heap.size, 0, none⟩) 2 2, .string ⟨#[]⟩, .int .i64 0, .bool false, .bool false, .int .i64 (-1), .int .i64 2, .slice (some ⟨w6.heap.size, 0, none⟩) 1 1, .string ⟨#[]⟩, .int .i64 0, .bool false, .bool false, .int .i64 (-1)] := by
    have h := Blk.new (V.alloc (.cells #[.int .i64 1, .int .u64 (wdI z 0), .int .u64 (wdI z 1), .int .u64 (wdI z 2), .int .u64 (wdI z 3), .int .i64 2] 60)) 65 #[.int .i64 0, .slice (some ⟨w2.heap.size, 0, none⟩) 2 2, .string ⟨#[]⟩, .int .i64 0, .bool false, .bool false, .int .i64 (-1), .int .i64 0, .slice (some ⟨w3.heap.size, 0, none⟩) 1 1, .string ⟨#[]⟩, .int .i64 0, .bool false, .bool false, .int .i64 (-1), .int .i64 1, .slice none 0 0, .string ⟨#[]⟩, .int .i64 0, .bool false, .bool false, .int .i64 (-1), .int .i64 1, .slice (some ⟨w5.heap.size, 0, none⟩) 2 2, .string ⟨#[]⟩, .int .i64 0, .bool false, .bool false, .int .i64 (-1), .int .i64 2, .slice (some ⟨w6.heap.size, 0, none⟩) 1 1, .string ⟨#[]⟩, .int .i64 0, .bool false, .bool false, .int .i64 (-1)]
    rw [World.size_alloc, hvs] at h
    rw [hW7]; exact h
  have HK8 := Lib.hid (HK7.out.below hA7 HK7.out.lt)
  have HR8 := Lib.hid (HR7.out.below hA7 HR7.out.lt)
  have HT8 := Lib.hid (HT7.out.below hA7 HT7.out.lt)
  have HU8 := Lib.hid (HU7.out.below hA7 HU7.out.lt)
  have hG8 := hG.below hA7 hG.lt
  have HB8 := Lib.hid (hB7.trans (hA7.mono hB7.size))
  have HIn : Hid (GSIn W7 (w.heap.size + 1) (w6.heap.size + 1) w2.heap.size w3.heap.size w5.heap.size w6.heap.size) := Lib.hid ⟨HK8.out, hp7, by
    have h := HR8.out
    rw [HZ.out] at h; exact h, by
    have h := HT8.out
    rw [HX.out] at h; exact h, by
    have h := HU8.out
    rw [HA.out, HZ.out] at h; exact h, by
    have h := hv7
    rw [HZ.out] at h; exact h⟩
  obtain ⟨q0, q1, q2, q3, q4⟩ := cells5s hG8
  rw [← hW7]
  clear hW7 hG8 hv7 hp7 hA7 hG hV
  refine bodyPost_ret (v := .agg #[.slice (some ⟨w.heap.size + 1, 0, none⟩) 3 3, .slice (some ⟨w6.heap.size + 1, 0, none⟩) 5 5, .int .i64 0, .slice none 0 0, .slice none 0 0]) (by simp [results, Tryz.results40, go_sem, q0, q1, q2, q3, q4]) rfl ⟨_, _, _, _, _, _, HIn.out, rfl, HB8.out⟩
end Go.Proofs.YtodnlcbnbkkanaaGreatDoor
end
section
namespace Go.Proofs.YtodnlcbnbkkanaaGreatDoor
open Go Go.RowKit

set_option maxHeartbeats 400000 in
theorem errno_any (n : Int) (w : World) : Calls Tryz.prog 25 #[.int .i64 n] w fun e w' => e = .returned (.int .i64 n) ∧ w = w' := by
  go_enter Tryz.func25, Tryz.ntmps25
  go_wp2
  go_ret
  exact ⟨rfl, rfl⟩
def boolsB (a b : List Bool) (e n : Int) : Bool := if e = n ∧ n = 0 then a == b else (e == n && a.isEmpty)
end Go.Proofs.YtodnlcbnbkkanaaGreatDoor
end
section
namespace Go.Proofs.YtodnlcbnbkkanaaGreatDoor
open Go Go.RowKit

theorem rowI_cell {W : World} {B : Nat} {S : List Int} (h : RowInt W (some ⟨B, 0, none⟩) S) {k : Nat} {v : Int} (hk : S[k]? = some v) : W.cell? ⟨B, k, none⟩ = some (.int .i64 v) ∧ B < W.heap.size := by
  obtain ⟨b, o, e, hb, hc, _⟩ := h k v hk
  simp only [Option.some.injEq, Addr.mk.injEq] at e
  obtain ⟨rfl, rfl, _⟩ := e
  have := Int_at hc
  rw [Nat.mul_one, Nat.zero_add] at this
  exact ⟨this, hb⟩
structure KnownA (G : Value) (w : World) : Prop where
  sh : ∀ W, Below w.heap.size w W → Calls Tryz.prog 28 #[G] W fun e w' => ∃ B c, e = .returned (.tuple #[.slice (some ⟨B, 0, none⟩) 3 c, .int .i64 0]) ∧ W.heap.size ≤ B ∧ (w'.cell? ⟨B, 0, none⟩ = some (.int .i64 1) ∧ w'.cell? ⟨B, 1, none⟩ = some (.int .i64 0) ∧ w'.cell? ⟨B, 2, none⟩ = some (.int .i64 (-1))) ∧ B < w'.heap.size ∧ Below W.heap.size W w'
  ci : ∀ W, Below w.heap.size w W → Calls Tryz.prog 16 #[G] W fun e w' => ∃ B, e = .returned (.tuple #[.slice (some ⟨B, 0, none⟩) 3 3, .int .i64 0]) ∧ W.heap.size ≤ B ∧ Blk w' B 4 #[.bool true, .bool false, .bool false] ∧ Below W.heap.size W w'
  nu : ∀ W, Below w.heap.size w W → Calls Tryz.prog 15 #[G] W fun e w' => ∃ B, e = .returned (.tuple #[.slice (some ⟨B, 0, none⟩) 3 3, .int .i64 0]) ∧ W.heap.size ≤ B ∧ Blk w' B 4 #[.bool false, .bool true, .bool false] ∧ Below W.heap.size W w'
  s0 : ∀ W, Below w.heap.size w W → Calls Tryz.prog 29 #[G, .int .i64 0] W fun e w' => e = .returned (.tuple #[.string ⟨#[120]⟩, .int .i64 0]) ∧ Below W.heap.size W w'
  s2 : ∀ W, Below w.heap.size w W → Calls Tryz.prog 29 #[G, .int .i64 2] W fun e w' => e = .returned (.tuple #[.string ⟨#[]⟩, .int .i64 161]) ∧ Below W.heap.size W w'
theorem knownA {w : World} {sa pa r0 r1 r3 r4 : Nat} (h : GSIn w sa pa r0 r1 r3 r4) (hT : TabAt 1 Lib.deBruijn64tab w) : KnownA (gramV (GSa sa pa r0 r1 r3 r4)) w := by
  have hf := GS_fit sa pa r0 r1 r3 r4
  have hck := GS_check (some ⟨sa, 0, none⟩) (some ⟨pa, 0, none⟩) (some ⟨r0, 0, none⟩) (some ⟨r1, 0, none⟩) (some ⟨r3, 0, none⟩) (some ⟨r4, 0, none⟩)
  have hck' : checkB (GSa sa pa r0 r1 r3 r4) = true := hck
  have hTW : ∀ W, Below w.heap.size w W → TabAt 1 Lib.deBruijn64tab W := fun W hW => KpG.tab (KpG.below hW (lt_of_cell (hT 0 (by decide)))) hT
  have hS : ∀ (k : Int), k = 0 ∨ k = 2 → ∀ S, ShortP (GSa sa pa r0 r1 r3 r4) S → gi S k ≤ (4096 : Nat) ∨ gi S k = 1048577 := fun k hk S h => by
    rw [GS_isS _ _ _ _ _ _ h]
    rcases hk with rfl | rfl
    · exact .inl (by decide)
    · exact .inl (by decide)
  refine ⟨fun W hW => ?_, fun W hW => ?_, fun W hW => ?_, fun W hW => ?_, fun W hW => ?_⟩
  · refine (Shortest_any _ hf W (h.below hW).inn).mono ?_
    rintro e w' ⟨hB, ⟨hc, _⟩ | ⟨_, S, B, c, hSh, rfl, hBl, hR⟩⟩
    · rw [hck'] at hc; cases hc
    · have e1 := GS_isS _ _ _ _ _ _ hSh
      rw [e1] at hR ⊢
      exact ⟨B, c, rfl, hBl, ⟨(rowI_cell hR (k := 0) rfl).1, (rowI_cell hR (k := 1) rfl).1, (rowI_cell hR (k := 2) rfl).1⟩, (rowI_cell hR (k := 0) rfl).2, hB⟩
  · refine (Circular_any _ hf W (h.below hW).inn).mono ?_
    rintro e w' ⟨hB, ⟨hc, _⟩ | ⟨_, M, B, hM, rfl, hBl, hR⟩⟩
    · rw [hck'] at hc; cases hc
    · have e1 := GS_circ _ _ _ _ _ _ hM
      rw [e1] at hR ⊢
      exact ⟨B, rfl, hBl, hR, hB⟩
  · refine (Nullable_any _ hf W (h.below hW).inn).mono ?_
    rintro e w' ⟨hB, ⟨hc, _⟩ | ⟨_, M, B, hM, rfl, hBl, hR⟩⟩
    · rw [hck'] at hc; cases hc
    · have e1 := GS_isN _ _ _ _ _ _ hM
      rw [e1] at hR ⊢
      exact ⟨B, rfl, hBl, hR, hB⟩
  · refine (Sample_any whole4096 _ hf 0 (by decide) (by decide) (hS 0 (.inl rfl)) W (h.below hW).inn (hTW W hW)).mono ?_
    rintro e w' ⟨hB, ⟨hc, _⟩ | ⟨_, ⟨hn, _⟩ | ⟨_, S, hSh, hh⟩⟩⟩
    · rw [hck'] at hc; cases hc
    · exact absurd hn (by rw [show numB 0 (GSa sa pa r0 r1 r3 r4).sorts.length = true from rfl]; decide)
    · rw [GS_isS _ _ _ _ _ _ hSh] at hh
      rcases hh with ⟨h1, _⟩ | ⟨h1, _⟩ | ⟨_, _, t, ht, rfl⟩
      · exact absurd h1 (by decide)
      · exact absurd h1 (by decide)
      · rw [GS_lt _ _ _ _ _ _ ht]
        exact ⟨rfl, hB⟩
  · refine (Sample_any whole4096 _ hf 2 (by decide) (by decide) (hS 2 (.inr rfl)) W (h.below hW).inn (hTW W hW)).mono ?_
    rintro e w' ⟨hB, ⟨hc, _⟩ | ⟨_, ⟨hn, _⟩ | ⟨_, S, hSh, hh⟩⟩⟩
    · rw [hck'] at hc; cases hc
    · exact absurd hn (by rw [show numB 2 (GSa sa pa r0 r1 r3 r4).sorts.length = true from rfl]; decide)
    · rw [GS_isS _ _ _ _ _ _ hSh] at hh
      rcases hh with ⟨_, rfl⟩ | ⟨h1, _⟩ | ⟨h1, _⟩
      · exact ⟨rfl, hB⟩
      · exact absurd h1 (by decide)
      · exact absurd h1 (by decide)

set_option maxRecDepth 100000 in
set_option maxHeartbeats 8000000 in
theorem works_any (w : World) (hT : TabAt 1 Lib.deBruijn64tab w) : Calls Tryz.prog 11 #[] w fun e w' => e = .returned (.bool true) ∧ Below w.heap.size w w' := by
  have HSm := Lib.hid (smp_any w)
  have HT := Lib.hid hT
  have HN := Lib.hid (fun n W => errno_any n W)
  clear hT
  go_enter Tryz.func11, Tryz.ntmps11
  go_wp2_with fail
  refine HSm.out.mono ?_
  rintro e w1 ⟨sa, pa, r0, r1, r3, r4, hIn, rfl, hB1⟩
  have HKA := Lib.hid (knownA hIn (KpG.tab (KpG.below hB1 (lt_of_cell (HT.out 0 (by decide)))) HT.out))
  have HB1 := Lib.hid hB1
  have HGE : Hid (gramV (GSa sa pa r0 r1 r3 r4) = .agg #[.slice (some ⟨sa, 0, none⟩) 3 3, .slice (some ⟨pa, 0, none⟩) 5 5, .int .i64 0, .slice none 0 0, .slice none 0 0]) := Lib.hid rfl
  rw [HGE.out] at HKA ⊢
  have hA : Below w1.heap.size w1 (w1.alloc (.cells #[.slice (some ⟨sa, 0, none⟩) 3 3, .slice (some ⟨pa, 0, none⟩) 5 5, .int .i64 0, .slice none 0 0, .slice none 0 0] 27)) := (Below.refl _ _).alloc (Nat.le_refl _) _
  have HG := Lib.hid (Blk.new w1 27 #[.slice (some ⟨sa, 0, none⟩) 3 3, .slice (some ⟨pa, 0, none⟩) 5 5, .int .i64 0, .slice none 0 0, .slice none 0 0])
  have HA := Lib.hid hA
  clear hB1 hIn hA HSm HGE
  go_wp2_with fail
  with_reducible refine (HKA.out.sh _ HA.out).mono ?_
  rintro e w2 ⟨B2, k2, rfl, hb2, hcs, hlt, hB⟩
  have HG2 := Lib.hid (HG.out.below hB HG.out.lt)
  have HA2 := Lib.hid (HA.out.trans (hB.mono HA.out.size))
  obtain ⟨c0, c1, c2, c3, c4⟩ := cells5s HG2.out
  have lg := HG2.out.lt
  have HS2 := Lib.hid (And.intro hcs hlt)
  clear hB HG HA hcs hlt hb2
  go_wp2_with fail
  with_reducible refine (HKA.out.ci _ HA2.out).mono ?_
  rintro e w3 ⟨B3, rfl, hb3, hk, hB⟩
  have HG3 := Lib.hid (HG2.out.below hB HG2.out.lt)
  have HA3 := Lib.hid (HA2.out.trans (hB.mono HA2.out.size))
  have HS3 : Hid ((w3.cell? ⟨B2, 0, none⟩ = some (.int .i64 1) ∧ w3.cell? ⟨B2, 1, none⟩ = some (.int .i64 0) ∧ w3.cell? ⟨B2, 2, none⟩ = some (.int .i64 (-1))) ∧ B2 < w3.heap.size) := Lib.hid ⟨⟨(hB.cell (p := ⟨B2, 0, none⟩) HS2.out.2).trans HS2.out.1.1, (hB.cell (p := ⟨B2, 1, none⟩) HS2.out.2).trans HS2.out.1.2.1, (hB.cell (p := ⟨B2, 2, none⟩) HS2.out.2).trans HS2.out.1.2.2⟩, Nat.lt_of_lt_of_le HS2.out.2 hB.size⟩
  have HC3 := Lib.hid hk
  obtain ⟨c0, c1, c2, c3, c4⟩ := cells5s HG3.out
  have lg := HG3.out.lt
  clear hB hk hb3 HG2 HA2 HS2
  go_wp2_with fail
  with_reducible refine (HKA.out.nu _ HA3.out).mono ?_
  rintro e w4 ⟨B4, rfl, hb4, hk, hB⟩
  have HG4 := Lib.hid (HG3.out.below hB HG3.out.lt)
  have HA4 := Lib.hid (HA3.out.trans (hB.mono HA3.out.size))
  have HS4 : Hid ((w4.cell? ⟨B2, 0, none⟩ = some (.int .i64 1) ∧ w4.cell? ⟨B2, 1, none⟩ = some (.int .i64 0) ∧ w4.cell? ⟨B2, 2, none⟩ = some (.int .i64 (-1))) ∧ B2 < w4.heap.size) := Lib.hid ⟨⟨(hB.cell (p := ⟨B2, 0, none⟩) HS3.out.2).trans HS3.out.1.1, (hB.cell (p := ⟨B2, 1, none⟩) HS3.out.2).trans HS3.out.1.2.1, (hB.cell (p := ⟨B2, 2, none⟩) HS3.out.2).trans HS3.out.1.2.2⟩, Nat.lt_of_lt_of_le HS3.out.2 hB.size⟩
  have HC4 := Lib.hid (HC3.out.below hB HC3.out.lt)
  have HN4 := Lib.hid hk
  obtain ⟨c0, c1, c2, c3, c4⟩ := cells5s HG4.out
  have lg := HG4.out.lt
  clear hB hk hb4 HG3 HA3 HS3 HC3
  go_wp2_with fail
  with_reducible refine (HKA.out.s0 _ HA4.out).mono ?_
  rintro e w5 ⟨rfl, hB⟩
  have HG5 := Lib.hid (HG4.out.below hB HG4.out.lt)
  have HA5 := Lib.hid (HA4.out.trans (hB.mono HA4.out.size))
  have HS5 : Hid ((w5.cell? ⟨B2, 0, none⟩ = some (.int .i64 1) ∧ w5.cell? ⟨B2, 1, none⟩ = some (.int .i64 0) ∧ w5.cell? ⟨B2, 2, none⟩ = some (.int .i64 (-1))) ∧ B2 < w5.heap.size) := Lib.hid ⟨⟨(hB.cell (p := ⟨B2, 0, none⟩) HS4.out.2).trans HS4.out.1.1, (hB.cell (p := ⟨B2, 1, none⟩) HS4.out.2).trans HS4.out.1.2.1, (hB.cell (p := ⟨B2, 2, none⟩) HS4.out.2).trans HS4.out.1.2.2⟩, Nat.lt_of_lt_of_le HS4.out.2 hB.size⟩
  have HC5 := Lib.hid (HC4.out.below hB HC4.out.lt)
  have HN5 := Lib.hid (HN4.out.below hB HN4.out.lt)
  obtain ⟨c0, c1, c2, c3, c4⟩ := cells5s HG5.out
  have lg := HG5.out.lt
  clear hB HG4 HA4 HS4 HC4 HN4
  go_wp2_with fail
  with_reducible refine (HKA.out.s2 _ HA5.out).mono ?_
  rintro e w6 ⟨rfl, hB⟩
  have HA6 := Lib.hid (HA5.out.trans (hB.mono HA5.out.size))
  obtain ⟨s0, s1, s2⟩ : w6.cell? ⟨B2, 0, none⟩ = some (.int .i64 1) ∧ w6.cell? ⟨B2, 1, none⟩ = some (.int .i64 0) ∧ w6.cell? ⟨B2, 2, none⟩ = some (.int .i64 (-1)) := ⟨(hB.cell (p := ⟨B2, 0, none⟩) HS5.out.2).trans HS5.out.1.1, (hB.cell (p := ⟨B2, 1, none⟩) HS5.out.2).trans HS5.out.1.2.1, (hB.cell (p := ⟨B2, 2, none⟩) HS5.out.2).trans HS5.out.1.2.2⟩
  have sl := Nat.lt_of_lt_of_le HS5.out.2 hB.size
  have hc6 := HC5.out.below hB HC5.out.lt
  have hn6 := HN5.out.below hB HN5.out.lt
  have i0 := hc6.cell 0
  have i1 := hc6.cell 1
  have i2 := hc6.cell 2
  have il := hc6.lt
  have n0 := hn6.cell 0
  have n1 := hn6.cell 1
  have n2 := hn6.cell 2
  have nl := hn6.lt
  simp only [List.getElem?_toArray, List.getElem?_cons_zero, List.getElem?_cons_succ] at i0 i1 i2 n0 n1 n2
  have HBe := Lib.hid (HB1.out.trans (HA6.out.mono HB1.out.size))
  clear hB hc6 hn6 HG5 HA5 HS5 HC5 HN5 HA6 HB1 c0 c1 c2 c3 c4 lg
  go_wp2_with (go_at_call 25; refine (HN.out _ _).mono ?_; rintro e wn ⟨rfl, rfl⟩)
  go_ret
  exact ⟨rfl, HBe.out⟩
end Go.Proofs.YtodnlcbnbkkanaaGreatDoor
end
section
namespace Go.Proofs.YtodnlcbnbkkanaaGreatDoor
open Go Go.RowKit

def vast8P (p : ProdM) : Bool := decide (31 < p.right.length) || decide (200 < p.cons.size)
def vast8 (g : GramM) : Bool := decide (40 < g.sorts.length) || (decide (80 < g.prods.length) || (decide (200 < g.forbid.length) || (decide (200 < g.follow.length) || g.prods.any vast8P)))

set_option maxRecDepth 100000 in
set_option maxHeartbeats 4000000 in
theorem vast8_big (g : GramM) (w : World) (h : 40 < g.sorts.length ∨ 80 < g.prods.length ∨ 200 < g.forbid.length ∨ 200 < g.follow.length) (m1 : g.sorts.length ≤ maxLen) (m2 : g.prods.length ≤ maxLen) (m3 : g.forbid.length ≤ maxLen) (m4 : g.follow.length ≤ maxLen) :
    Calls Tryz.prog 10 #[gramV g] w fun e w' => e = .returned (.bool (vast8 g)) ∧ Below w.heap.size w w' := by
  have HE : Hid (vast8 g = true) := Lib.hid (by unfold vast8; simp only [Bool.or_eq_true, decide_eq_true_eq]; rcases h with h | h | h | h <;> simp [h])
  unfold maxLen at m1 m2 m3 m4
  obtain ⟨q, hq⟩ : ∃ q, q = vast8 g := ⟨_, rfl⟩
  rw [← hq] at HE ⊢
  clear hq
  unfold gramV gramC at *
  generalize g.sorts.length = n1 at *
  generalize g.prods.length = n2 at *
  generalize g.forbid.length = n3 at *
  generalize g.follow.length = n4 at *
  by_cases h1 : 40 < n1
  · have g1 : (40 : Int) < (n1 : Int) := by omega
    go_enter Tryz.func10, Tryz.ntmps10
    go_wp2
    go_ret
    exact ⟨by rw [HE.out]; rfl, (Below.refl _ w).alloc (Nat.le_refl _) _⟩
  · have g1 : decide ((40 : Int) < (n1 : Int)) = false := by simp; omega
    by_cases h2 : 80 < n2
    · have g2 : (80 : Int) < (n2 : Int) := by omega
      clear h
      go_enter Tryz.func10, Tryz.ntmps10
      go_wp2
      go_ret
      exact ⟨by rw [HE.out]; rfl, (Below.refl _ w).alloc (Nat.le_refl _) _⟩
    · have g2 : decide ((80 : Int) < (n2 : Int)) = false := by simp; omega
      by_cases h3 : 200 < n3
      · have g3 : (200 : Int) < (n3 : Int) := by omega
        clear h
        go_enter Tryz.func10, Tryz.ntmps10
        go_wp2
        go_ret
        exact ⟨by rw [HE.out]; rfl, (Below.refl _ w).alloc (Nat.le_refl _) _⟩
      · have g3 : decide ((200 : Int) < (n3 : Int)) = false := by simp; omega
        have g4 : (200 : Int) < (n4 : Int) := by omega
        clear h
        go_enter Tryz.func10, Tryz.ntmps10
        go_wp2
        go_ret
        exact ⟨by rw [HE.out]; rfl, (Below.refl _ w).alloc (Nat.le_refl _) _⟩
set_option maxRecDepth 100000 in
set_option maxHeartbeats 4000000 in
theorem vast8_small (g : GramM) (w : World) (hg : GIn w g) (h1 : g.sorts.length ≤ 40) (h2 : g.prods.length ≤ 80) (h3 : g.forbid.length ≤ 200) (h4 : g.follow.length ≤ 200) (hp : ∀ p, p ∈ g.prods → p.right.length ≤ maxLen ∧ p.cons.size ≤ maxLen) :
    Calls Tryz.prog 10 #[gramV g] w fun e w' => e = .returned (.bool (vast8 g)) ∧ Below w.heap.size w w' := by
  have HP := Lib.hid hg.prods
  have HE : Hid (vast8 g = g.prods.any vast8P) := Lib.hid (by
    unfold vast8
    rw [decide_eq_false (by omega : ¬ 40 < g.sorts.length), decide_eq_false (by omega : ¬ 80 < g.prods.length), decide_eq_false (by omega : ¬ 200 < g.forbid.length), decide_eq_false (by omega : ¬ 200 < g.follow.length)]
    simp)
  obtain ⟨q, hq⟩ : ∃ q, q = vast8 g := ⟨_, rfl⟩
  rw [← hq] at HE ⊢
  have HQ := Lib.hid hp
  clear hq hg hp
  unfold gramV gramC at *
  obtain ⟨n1, hn1⟩ : ∃ n, n = g.sorts.length := ⟨_, rfl⟩
  obtain ⟨n2, hn2⟩ : ∃ n, n = g.prods.length := ⟨_, rfl⟩
  rw [← hn1] at h1 ⊢
  rw [← hn2] at h2 ⊢
  generalize g.forbid.length = n3 at *
  generalize g.follow.length = n4 at *
  have HN1 := Lib.hid hn1
  have HN2 := Lib.hid hn2
  have g1 : decide ((40 : Int) < (n1 : Int)) = false := by simp; omega
  have g2 : decide ((80 : Int) < (n2 : Int)) = false := by simp; omega
  have g3 : decide ((200 : Int) < (n3 : Int)) = false := by simp; omega
  have g4 : decide ((200 : Int) < (n4 : Int)) = false := by simp; omega
  clear hn1 hn2
  go_enter Tryz.func10, Tryz.ntmps10
  go_wp2
  go_loop [3] (fun i => ∃ k : Nat, i = .int .i64 k ∧ k ≤ n2 ∧ Hid (∀ (j : Nat) (x : ProdM), j < k → g.prods[j]? = some x → vast8P x = false)) (fun i => n2 - (intOf i).toNat)
  case atStart => exact ⟨0, rfl, Nat.zero_le _, Lib.hid (fun j x hj => by omega)⟩
  case round =>
    obtain ⟨k, rfl, hk, hS⟩ := hrel
    by_cases hlt : k < n2
    · obtain ⟨x, hx⟩ : ∃ x, g.prods[k]? = some x := ⟨_, List.getElem?_eq_getElem (by rw [← HN2.out]; exact hlt)⟩
      obtain ⟨b1, o1, e1, hb1, hc1, _⟩ := HP.out k x hx
      obtain ⟨hz1, hz2⟩ := HQ.out x (List.mem_of_getElem? hx)
      obtain ⟨c10, c11, c12, _, _, _, _⟩ := Prod_at hc1
      have E1 := Lib.hid e1
      clear hc1 e1
      have f1 : (k : Int) < (n2 : Int) := by omega
      unfold maxLen at hz1 hz2
      rw [E1.out]
      have HV : Hid (vast8P x = (decide (31 < x.right.length) || decide (200 < x.cons.size))) := Lib.hid rfl
      have HQ2 : Hid (vast8P x = true → q = true) := Lib.hid (fun h => by rw [HE.out, any_yes hx h])
      have HX := Lib.hid hx
      clear hx
      generalize x.right.length = m at *
      by_cases hb : 31 < m
      · have HE3 : Hid (q = true) := Lib.hid (HQ2.out (by rw [HV.out]; simp [hb]))
        have f2 : (31 : Int) < (m : Int) := by omega
        clear HP HQ hS E1 HX HV HQ2 HE
        go_wp2
        go_ret
        exact ⟨by rw [HE3.out]; rfl, (Below.refl _ w).alloc (Nat.le_refl _) _⟩
      · have f2 : decide ((31 : Int) < (m : Int)) = false := by simp; omega
        by_cases hb2 : 200 < x.cons.size
        · have HE3 : Hid (q = true) := Lib.hid (HQ2.out (by rw [HV.out]; simp [hb2]))
          have f3 : (200 : Int) < (x.cons.size : Int) := by omega
          clear HP HQ hS E1 HX HV HQ2 HE
          go_wp2
          go_ret
          exact ⟨by rw [HE3.out]; rfl, (Below.refl _ w).alloc (Nat.le_refl _) _⟩
        · have HE3 : Hid (vast8P x = false) := Lib.hid (by rw [HV.out, decide_eq_false hb, decide_eq_false hb2]; rfl)
          have f3 : decide ((200 : Int) < (x.cons.size : Int)) = false := by simp; omega
          clear HV HQ2
          go_wp2
          go_round
          case rel => exact ⟨k + 1, by go_num, by omega, Lib.hid (fun j y hj hy => by
            by_cases e : j = k
            · subst e; rw [HX.out] at hy; cases hy; exact HE3.out
            · exact hS.out j y (by omega) hy)⟩
          case measure => simp [intOf]; omega
    · obtain rfl : k = n2 := by omega
      have HE3 : Hid (q = false) := Lib.hid (by
        rw [HE.out]
        exact any_no (fun i x hx => hS.out i x (by have := (List.getElem?_eq_some_iff.1 hx).1; have := HN2.out; omega) hx))
      clear hS HP HE
      go_wp2
      go_ret
      exact ⟨by rw [HE3.out]; rfl, (Below.refl _ w).alloc (Nat.le_refl _) _⟩
theorem AGram.fit8 {w : World} {g : GramM} (h : AGram w g) (hv : vast8 g = false) : FitG g := by
  unfold vast8 at hv
  simp only [Bool.or_eq_false_iff, decide_eq_false_iff_not, List.any_eq_false] at hv
  obtain ⟨h1, h2, h3, h4, h6⟩ := hv
  refine ⟨⟨by omega, by omega, fun x hx => ?_, by omega, by omega, fun f hf => (h.forb f hf).at_, fun s hs => ?_⟩, h.forb, h.fol⟩
  · have := h6 x hx
    unfold vast8P at this
    simp at this
    omega
  · have := h.names s hs
    unfold maxLen at this
    omega
theorem vast8_any (g : GramM) (w : World) (h : AGram w g) : Calls Tryz.prog 10 #[gramV g] w fun e w' => e = .returned (.bool (vast8 g)) ∧ Below w.heap.size w w' := by
  by_cases hb : 40 < g.sorts.length ∨ 80 < g.prods.length ∨ 200 < g.forbid.length ∨ 200 < g.follow.length
  · exact vast8_big g w hb (Nat.le_trans h.sl h.sc) (Nat.le_trans h.pl h.pc) (Nat.le_trans h.fl h.fc) (Nat.le_trans h.wl h.wc)
  · exact vast8_small g w h.inn (by omega) (by omega) (by omega) (by omega) (fun p hp => ⟨Nat.le_trans (h.prods p hp).len (h.prods p hp).cap, (h.prods p hp).cons⟩)
end Go.Proofs.YtodnlcbnbkkanaaGreatDoor
end
section
namespace Go.Proofs.YtodnlcbnbkkanaaGreatDoor
open Go Go.RowKit

theorem AProd.below {w W : World} {p : ProdM} (h : AProd w p) (hB : Below w.heap.size w W) : AProd W p := ⟨h.inn.below hB, h.left, h.role, h.frm, h.cons, h.syms, h.len, h.cap, h.nil⟩
theorem AGram.below {w W : World} {g : GramM} (h : AGram w g) (hB : Below w.heap.size w W) : AGram W g :=
  ⟨h.inn.below hB, h.start, h.names, fun p hp => (h.prods p hp).below hB, h.forb, h.fol, h.sl, h.sc, h.sn, h.pl, h.pc, h.pn, h.fl, h.fc, h.fn, h.wl, h.wc, h.wn⟩
theorem tab_below {w W : World} (h : TabAt 1 Lib.deBruijn64tab w) (hB : Below w.heap.size w W) : TabAt 1 Lib.deBruijn64tab W := KpG.tab (KpG.below hB (lt_of_cell (h 0 (by decide)))) h
end Go.Proofs.YtodnlcbnbkkanaaGreatDoor
end
section
namespace Go.Proofs.YtodnlcbnbkkanaaGreatDoor
open Go Go.RowKit

theorem index47_0 (a b c d : Value) (w : World) : (Instr.index 47 (.agg #[a, b, c, d]) (.int .i64 0)).run Tryz.prog w = .ok a w := by kernel_rfl
theorem index47_1 (a b c d : Value) (w : World) : (Instr.index 47 (.agg #[a, b, c, d]) (.int .i64 1)).run Tryz.prog w = .ok b w := by kernel_rfl
theorem index47_2 (a b c d : Value) (w : World) : (Instr.index 47 (.agg #[a, b, c, d]) (.int .i64 2)).run Tryz.prog w = .ok c w := by kernel_rfl
theorem index47_3 (a b c d : Value) (w : World) : (Instr.index 47 (.agg #[a, b, c, d]) (.int .i64 3)).run Tryz.prog w = .ok d w := by kernel_rfl
def SetAt (cs : Array Value) (off : Nat) (s : BS) : Prop := CsAt cs off (cset s)
theorem set_cell {cs : Array Value} {off : Nat} {s : BS} (h : SetAt cs off s) {j : Nat} (hj : j < 4) : cs[off + j]? = some (.int .u64 (wdI s j)) := by
  refine h j _ ?_
  have : j = 0 ∨ j = 1 ∨ j = 2 ∨ j = 3 := by omega
  rcases this with rfl | rfl | rfl | rfl <;> rfl
theorem setAt_of {cs : Array Value} {off : Nat} {s : BS} (h : ∀ j, j < 4 → cs[off + j]? = some (.int .u64 (wdI s j))) : SetAt cs off s := fun j v hj => by
  have hl : j < 4 := by
    have := (Array.getElem?_eq_some_iff.1 hj).1
    simpa [cset] using this
  rw [h j hl, ← hj]
  have : j = 0 ∨ j = 1 ∨ j = 2 ∨ j = 3 := by omega
  rcases this with rfl | rfl | rfl | rfl <;> rfl
structure GrowI (w : World) (B t off : Nat) (cs : Array Value) (s m : BS) (i : Nat) (W : World) : Prop where
  ex : ∃ ds, Blk W B t ds ∧ ds.size = cs.size ∧ (∀ k, k < off ∨ off + 4 ≤ k → ds[k]? = cs[k]?) ∧ ∀ j, j < 4 → ds[off + j]? = some (.int .u64 (wdI (if j < i then s ||| m else s) j))
  old : Blk W (w.heap.size + 1) 47 (cset s)
  g : w.grownBy W (some B)
  hi : w.heap.size + 2 ≤ W.heap.size
theorem GrowI.step {w : World} {B t off : Nat} {cs : Array Value} {s m : BS} {i : Nat} {W : World} (h : GrowI w B t off cs s m i W) (hi : i < 4) (hB : B < w.heap.size) : GrowI w B t off cs s m (i + 1) (W.setCell ⟨B, off + i, none⟩ (.int .u64 (wdI (s ||| m) i))) := by
  obtain ⟨ds, h1, h2, h3, h4⟩ := h.ex
  refine ⟨⟨_, h1.set (off + i) (.int .u64 (wdI (s ||| m) i)), by rw [Array.size_setIfInBounds]; exact h2, fun k hk => by rw [Array.getElem?_setIfInBounds_ne (by omega)]; exact h3 k hk, fun j hj => ?_⟩, h.old.other (by show w.heap.size + 1 ≠ B; omega) _, grown_trans h.g (grown_set W B _ _), by rw [World.size_setCell]; exact h.hi⟩
  by_cases e : j = i
  · subst e
    have hl := (Array.getElem?_eq_some_iff.1 (h4 j hj)).1
    rw [Array.getElem?_setIfInBounds_self_of_lt hl, if_pos (by omega)]
  · rw [Array.getElem?_setIfInBounds_ne (by omega), h4 j hj]
    by_cases e2 : j < i
    · rw [if_pos e2, if_pos (by omega)]
    · rw [if_neg e2, if_neg (by omega)]
theorem grown_below {w W : World} (hb : Below w.heap.size w W) (row : Option Nat) : w.grownBy W row := ⟨hb.os, hb.tape, hb.output, hb.size, fun j hj _ => hb.block j hj⟩
theorem GrowI.drew {w : World} {B t off : Nat} {cs : Array Value} {s m : BS} {i : Nat} {W : World} (h : GrowI w B t off cs s m i W) : GrowI w B t off cs s m i W.drew := ⟨h.ex, h.old, grown_trans h.g (grown_below (Below.refl W.heap.size W).drew _), h.hi⟩
def GrowPost (w : World) (B t off : Nat) (cs : Array Value) (s m : BS) (e : Ending) (w' : World) : Prop := e = .returned (.bool (!(s ||| m == s))) ∧ w.grownBy w' (some B) ∧ ∃ ds, Blk w' B t ds ∧ ds.size = cs.size ∧ (∀ k, k < off ∨ off + 4 ≤ k → ds[k]? = cs[k]?) ∧ SetAt ds off (s ||| m)

set_option maxRecDepth 100000 in
set_option maxHeartbeats 4000000 in
theorem grow_any (B t off : Nat) (cs : Array Value) (s m : BS) (w : World) (hB : Blk w B t cs) (hs : SetAt cs off s) : Calls Tryz.prog 105 #[.pointer (some ⟨B, off, none⟩), vset m] w (GrowPost w B t off cs s m) := by
  have hBl := hB.lt
  have HI0 : Hid (GrowI w B t off cs s m 0 ((w.alloc (.cells (cset m) 47)).alloc (.cells (cset s) 47))) := Lib.hid (by
    have h2 := Blk.new (w.alloc (.cells (cset m) 47)) 47 (cset s)
    rw [World.size_alloc] at h2
    exact ⟨⟨cs, (hB.alloc _).alloc _, rfl, fun _ _ => rfl, fun j hj => by rw [if_neg (by omega)]; exact set_cell hs hj⟩, h2, grown_trans (World.grownBy_alloc w _ _) (World.grownBy_alloc _ _ _), by simp⟩)
  have b0 := (hB.cell (off + 0)).trans (set_cell hs (j := 0) (by decide))
  have b1 := (hB.cell (off + 1)).trans (set_cell hs (j := 1) (by decide))
  have b2 := (hB.cell (off + 2)).trans (set_cell hs (j := 2) (by decide))
  have b3 := (hB.cell (off + 3)).trans (set_cell hs (j := 3) (by decide))
  rw [Nat.add_zero] at b0
  have HOr : Hid (∀ j, bits .or .u64 (wdI s j) (wdI m j) = wdI (s ||| m) j) := Lib.hid (fun j => wdI_or s m j)
  clear hB hs
  unfold vset
  unfold cset at HI0
  go_enter Tryz.func105, Tryz.ntmps105
  go_wp2
  go_loopw [12] (fun vi wr => ∃ i : Nat, vi = .int .i64 i ∧ i ≤ 4 ∧ Hid (GrowI w B t off cs s m i wr)) (fun vi _ => 4 - (intOf vi).toNat)
  case atStart => exact ⟨0, rfl, Nat.zero_le _, HI0⟩
  case round =>
    clear HI0 b0 b1 b2 b3
    obtain ⟨i, rfl, hi, K⟩ := hrel
    obtain ⟨ds, h1, h2, h3, h4⟩ := K.out.ex
    have lB := h1.lt
    by_cases hlt : i < 4
    · have HZ := Lib.hid (K.out.step hlt hBl)
      have ho := HOr.out i
      have c0 := (h1.cell (off + i)).trans (h4 i hlt)
      rw [if_neg (Nat.lt_irrefl i)] at c0
      have f0 := h1.frozen (off + i)
      clear h1 h2 h3 h4 K
      have hcase : i = 0 ∨ i = 1 ∨ i = 2 ∨ i = 3 := by omega
      rcases hcase with rfl | rfl | rfl | rfl
      · have hx := fun W => index47_0 (.int .u64 (wdI m 0)) (.int .u64 (wdI m 1)) (.int .u64 (wdI m 2)) (.int .u64 (wdI m 3)) W
        have HZ' := HZ.out
        rw [Nat.add_zero] at HZ' c0 f0
        have HZ := Lib.hid HZ'
        clear HZ'
        go_wp2
        go_region
        all_goals (
          go_wp2
          go_roundw
          case rel => exact ⟨1, by go_num, by omega, Lib.hid HZ.out.drew⟩
          case measure => simp [intOf] <;> omega)
      · have hx := fun W => index47_1 (.int .u64 (wdI m 0)) (.int .u64 (wdI m 1)) (.int .u64 (wdI m 2)) (.int .u64 (wdI m 3)) W
        go_wp2
        go_region
        all_goals (
          go_wp2
          go_roundw
          case rel => exact ⟨2, by go_num, by omega, Lib.hid HZ.out.drew⟩
          case measure => simp [intOf] <;> omega)
      · have hx := fun W => index47_2 (.int .u64 (wdI m 0)) (.int .u64 (wdI m 1)) (.int .u64 (wdI m 2)) (.int .u64 (wdI m 3)) W
        go_wp2
        go_region
        all_goals (
          go_wp2
          go_roundw
          case rel => exact ⟨3, by go_num, by omega, Lib.hid HZ.out.drew⟩
          case measure => simp [intOf] <;> omega)
      · have hx := fun W => index47_3 (.int .u64 (wdI m 0)) (.int .u64 (wdI m 1)) (.int .u64 (wdI m 2)) (.int .u64 (wdI m 3)) W
        go_wp2
        go_region
        all_goals (
          go_wp2
          go_roundw
          case rel => exact ⟨4, by go_num, by omega, Lib.hid HZ.out.drew⟩
          case measure => simp [intOf] <;> omega)
    · obtain rfl : i = 4 := by omega
      have d0 := K.out.old.cell 0
      have d1 := K.out.old.cell 1
      have d2 := K.out.old.cell 2
      have d3 := K.out.old.cell 3
      unfold cset at d0 d1 d2 d3
      simp only [List.getElem?_toArray, List.getElem?_cons_zero, List.getElem?_cons_succ] at d0 d1 d2 d3
      have dl := K.out.old.lt
      have b0 := (h1.cell (off + 0)).trans (h4 0 (by decide))
      have b1 := (h1.cell (off + 1)).trans (h4 1 (by decide))
      have b2 := (h1.cell (off + 2)).trans (h4 2 (by decide))
      have b3 := (h1.cell (off + 3)).trans (h4 3 (by decide))
      rw [if_pos (by decide)] at b0 b1 b2 b3
      rw [Nat.add_zero] at b0
      have HE := eq_sets (s ||| m) s
      have HZ : Hid (∀ k, GrowPost w B t off cs s m (.returned (.bool (!(s ||| m == s)))) (wr.drewN k)) := Lib.hid (fun k => by
        have hb := below_drewN (Below.refl wr.heap.size wr) k
        exact ⟨rfl, grown_trans K.out.g (grown_below hb _), ds, h1.below hb lB, h2, h3, setAt_of fun j hj => by rw [h4 j hj, if_pos hj]⟩)
      clear h1 h2 h3 h4 K HOr
      go_wp2
      go_region
      all_goals (
        go_wp2
        go_ret
        first | exact HZ.out 1 | exact HZ.out 2)
end Go.Proofs.YtodnlcbnbkkanaaGreatDoor
end
section
namespace Go.Proofs.YtodnlcbnbkkanaaGreatDoor
open Go Go.RowKit

def setsC (L : List BS) : Array Value := (cellsL cset L).toArray
theorem setsC_size (L : List BS) : (setsC L).size = L.length * 4 := by unfold setsC; rw [List.size_toArray]; exact cellsL_length (cs := cset) (fun _ => rfl) L
theorem setsC_at {L : List BS} {k : Nat} {s : BS} (h : L[k]? = some s) : SetAt (setsC L) (k * 4) s := fun j v hj => by
  have hl : j < 4 := by
    have := (Array.getElem?_eq_some_iff.1 hj).1
    simpa [cset] using this
  unfold setsC
  rw [List.getElem?_toArray, cellsL_at (cs := cset) (k := 4) (fun _ => rfl) L k s h j hl]
  exact hj
theorem cells4q {W : World} {B t : Nat} {u0 u1 u2 u3 : Value} (h : Blk W B t #[u0, u1, u2, u3]) : W.cell? ⟨B, 0, none⟩ = some u0 ∧ W.cell? ⟨B, 1, none⟩ = some u1 ∧ W.cell? ⟨B, 2, none⟩ = some u2 ∧ W.cell? ⟨B, 3, none⟩ = some u3 := ⟨h.cell 0, h.cell 1, h.cell 2, h.cell 3⟩
theorem cells6q {W : World} {B t : Nat} {u0 u1 u2 u3 u4 u5 : Value} (h : Blk W B t #[u0, u1, u2, u3, u4, u5]) : W.cell? ⟨B, 0, none⟩ = some u0 ∧ W.cell? ⟨B, 1, none⟩ = some u1 ∧ W.cell? ⟨B, 2, none⟩ = some u2 ∧ W.cell? ⟨B, 3, none⟩ = some u3 ∧ W.cell? ⟨B, 4, none⟩ = some u4 ∧ W.cell? ⟨B, 5, none⟩ = some u5 :=
  ⟨h.cell 0, h.cell 1, h.cell 2, h.cell 3, h.cell 4, h.cell 5⟩
def symF (L : List BS) (s : SymM) : BS := if s.kind = 0 then s.set else L.getD s.sort.toNat 0#256
def symE (M : List Bool) (s : SymM) : Bool := if s.kind = 0 then false else lv M s.sort

set_option maxRecDepth 100000 in
set_option maxHeartbeats 4000000 in
theorem bof_any (L : List BS) (M : List Bool) (Bb Be n : Nat) (s : SymM) (w : World) (hb : Blk w Bb 47 (setsC L)) (he : Blk w Be 4 (bools M)) (hL : L.length = n) (hM : M.length = n) (hn : n ≤ 1000) (hk : s.kind = 0 ∨ s.kind = 1) (hs : s.kind = 1 → ∃ k : Nat, s.sort = k ∧ k < n) :
    Calls Tryz.prog 104 #[.agg #[.slice (some ⟨Bb, 0, none⟩) n n, .slice (some ⟨Be, 0, none⟩) n n], symV s] w fun e w' => e = .returned (.tuple #[vset (symF L s), .bool (symE M s)]) ∧ Below w.heap.size w w' := by
  have lb := hb.lt
  have le := he.lt
  rcases hk with hk | hk
  · have e1 : symF L s = s.set := by unfold symF; rw [if_pos hk]
    have e2 : symE M s = false := by unfold symE; rw [if_pos hk]
    rw [e1, e2]
    obtain ⟨sk, ss, so⟩ := s
    dsimp only at *
    subst hk
    unfold symV symC vset
    have hbk := Blk.new ((w.alloc (.cells #[.slice (some ⟨Bb, 0, none⟩) n n, .slice (some ⟨Be, 0, none⟩) n n] 118)).alloc (.cells #[.int .i64 0, .int .u64 (wdI ss 0), .int .u64 (wdI ss 1), .int .u64 (wdI ss 2), .int .u64 (wdI ss 3), .int .i64 so] 60)) 47 (cset ss)
    rw [World.size_alloc, World.size_alloc] at hbk
    unfold cset at hbk
    have q0 := hbk.cell 0
    have q1 := hbk.cell 1
    have q2 := hbk.cell 2
    have q3 := hbk.cell 3
    simp only [List.getElem?_toArray, List.getElem?_cons_zero, List.getElem?_cons_succ] at q0 q1 q2 q3
    have HB : Hid (Below w.heap.size w (((w.alloc (.cells #[.slice (some ⟨Bb, 0, none⟩) n n, .slice (some ⟨Be, 0, none⟩) n n] 118)).alloc (.cells #[.int .i64 0, .int .u64 (wdI ss 0), .int .u64 (wdI ss 1), .int .u64 (wdI ss 2), .int .u64 (wdI ss 3), .int .i64 so] 60)).alloc (.cells #[.int .u64 (wdI ss 0), .int .u64 (wdI ss 1), .int .u64 (wdI ss 2), .int .u64 (wdI ss 3)] 47))) := Lib.hid ((((Below.refl _ _).alloc (Nat.le_refl _) _).alloc (by simp) _).alloc (by simp; omega) _)
    clear hbk e1 e2 hb he hs
    go_enter Tryz.func104, Tryz.ntmps104
    go_wp2
    refine bodyPost_ret (v := .tuple #[.agg #[.int .u64 (wdI ss 0), .int .u64 (wdI ss 1), .int .u64 (wdI ss 2), .int .u64 (wdI ss 3)], .bool false]) (by simp [results, Tryz.results104, go_sem, q0, q1, q2, q3]) rfl ⟨rfl, ?_⟩
    exact HB.out
  · obtain ⟨k, hso, hkn⟩ := hs hk
    obtain ⟨t, ht⟩ : ∃ t, L[k]? = some t := ⟨_, List.getElem?_eq_getElem (by omega)⟩
    have e1 : symF L s = t := by unfold symF; rw [if_neg (by omega), hso, Int.toNat_natCast, List.getD_eq_getElem?_getD, ht]; rfl
    obtain ⟨v, hv⟩ : ∃ v, v = lv M (k : Int) := ⟨_, rfl⟩
    have e2 : symE M s = v := by unfold symE; rw [if_neg (by omega), hso, ← hv]
    rw [e1, e2]
    have hS := setsC_at ht
    have c0 := (hb.cell (k * 4 + 0)).trans (set_cell hS (j := 0) (by decide))
    have c1 := (hb.cell (k * 4 + 1)).trans (set_cell hS (j := 1) (by decide))
    have c2 := (hb.cell (k * 4 + 2)).trans (set_cell hS (j := 2) (by decide))
    have c3 := (hb.cell (k * 4 + 3)).trans (set_cell hS (j := 3) (by decide))
    rw [Nat.add_zero] at c0
    have cm := he.cell k
    rw [bools_at _ _ (by omega), ← hv] at cm
    obtain ⟨sk, ss, so⟩ := s
    dsimp only at *
    subst hk hso
    have z1 : (k : Int) < (n : Int) := by omega
    have z0 : (0 : Int) ≤ (k : Int) := by omega
    unfold symV symC vset
    have hB3 : Below w.heap.size w (((w.alloc (.cells #[.slice (some ⟨Bb, 0, none⟩) n n, .slice (some ⟨Be, 0, none⟩) n n] 118)).alloc (.cells #[.int .i64 1, .int .u64 (wdI ss 0), .int .u64 (wdI ss 1), .int .u64 (wdI ss 2), .int .u64 (wdI ss 3), .int .i64 (k : Int)] 60)).alloc (.cells #[.int .u64 0, .int .u64 0, .int .u64 0, .int .u64 0] 47)) := (((Below.refl _ _).alloc (Nat.le_refl _) _).alloc (by simp) _).alloc (by simp; omega) _
    have hk1 := ((Blk.new w 118 #[.slice (some ⟨Bb, 0, none⟩) n n, .slice (some ⟨Be, 0, none⟩) n n]).alloc (.cells #[.int .i64 1, .int .u64 (wdI ss 0), .int .u64 (wdI ss 1), .int .u64 (wdI ss 2), .int .u64 (wdI ss 3), .int .i64 (k : Int)] 60)).alloc (.cells #[.int .u64 0, .int .u64 0, .int .u64 0, .int .u64 0] 47)
    have hk2 := (Blk.new (w.alloc (.cells #[.slice (some ⟨Bb, 0, none⟩) n n, .slice (some ⟨Be, 0, none⟩) n n] 118)) 60 #[.int .i64 1, .int .u64 (wdI ss 0), .int .u64 (wdI ss 1), .int .u64 (wdI ss 2), .int .u64 (wdI ss 3), .int .i64 (k : Int)]).alloc (.cells #[.int .u64 0, .int .u64 0, .int .u64 0, .int .u64 0] 47)
    have hk3 := Blk.new ((w.alloc (.cells #[.slice (some ⟨Bb, 0, none⟩) n n, .slice (some ⟨Be, 0, none⟩) n n] 118)).alloc (.cells #[.int .i64 1, .int .u64 (wdI ss 0), .int .u64 (wdI ss 1), .int .u64 (wdI ss 2), .int .u64 (wdI ss 3), .int .i64 (k : Int)] 60)) 47 #[.int .u64 0, .int .u64 0, .int .u64 0, .int .u64 0]
    rw [World.size_alloc] at hk2
    rw [World.size_alloc, World.size_alloc] at hk3
    obtain ⟨W, hW⟩ : ∃ W, W = ((w.alloc (.cells #[.slice (some ⟨Bb, 0, none⟩) n n, .slice (some ⟨Be, 0, none⟩) n n] 118)).alloc (.cells #[.int .i64 1, .int .u64 (wdI ss 0), .int .u64 (wdI ss 1), .int .u64 (wdI ss 2), .int .u64 (wdI ss 3), .int .i64 (k : Int)] 60)).alloc (.cells #[.int .u64 0, .int .u64 0, .int .u64 0, .int .u64 0] 47) := ⟨_, rfl⟩
    have HW := Lib.hid hW
    rw [← hW] at hB3 hk1 hk2 hk3
    have c0 := (hB3.cell (p := ⟨Bb, k * 4, none⟩) lb).trans c0
    have c1 := (hB3.cell (p := ⟨Bb, k * 4 + 1, none⟩) lb).trans c1
    have c2 := (hB3.cell (p := ⟨Bb, k * 4 + 2, none⟩) lb).trans c2
    have c3 := (hB3.cell (p := ⟨Bb, k * 4 + 3, none⟩) lb).trans c3
    have cm := (hB3.cell (p := ⟨Be, k, none⟩) le).trans cm
    have lb := Nat.lt_of_lt_of_le lb hB3.size
    have le := Nat.lt_of_lt_of_le le hB3.size
    have a0 := hk1.cell 0
    have a1 := hk1.cell 1
    have al := hk1.lt
    obtain ⟨s0, s1, s2, s3, s4, s5⟩ := cells6q hk2
    have sl := hk2.lt
    obtain ⟨r0, r1, r2, r3⟩ := cells4q hk3
    have f0 := hk3.frozen 0
    have f1 := hk3.frozen 1
    have f2 := hk3.frozen 2
    have f3 := hk3.frozen 3
    have rl := hk3.lt
    simp only [List.getElem?_toArray, List.getElem?_cons_zero, List.getElem?_cons_succ] at a0 a1
    have hend : Blk (((((W.setCell ⟨w.heap.size + 1 + 1, 0, none⟩ (.int .u64 (wdI t 0))).setCell ⟨w.heap.size + 1 + 1, 1, none⟩ (.int .u64 (wdI t 1))).setCell ⟨w.heap.size + 1 + 1, 2, none⟩ (.int .u64 (wdI t 2))).setCell ⟨w.heap.size + 1 + 1, 3, none⟩ (.int .u64 (wdI t 3))).drew) (w.heap.size + 1 + 1) 47 #[.int .u64 (wdI t 0), .int .u64 (wdI t 1), .int .u64 (wdI t 2), .int .u64 (wdI t 3)] := ((((hk3.set 0 (.int .u64 (wdI t 0))).set 1 (.int .u64 (wdI t 1))).set 2 (.int .u64 (wdI t 2))).set 3 (.int .u64 (wdI t 3))).drew
    have hlow : w.heap.size ≤ w.heap.size + 1 + 1 := by omega
    have HEnd : Hid (Below w.heap.size w (((((W.setCell ⟨w.heap.size + 1 + 1, 0, none⟩ (.int .u64 (wdI t 0))).setCell ⟨w.heap.size + 1 + 1, 1, none⟩ (.int .u64 (wdI t 1))).setCell ⟨w.heap.size + 1 + 1, 2, none⟩ (.int .u64 (wdI t 2))).setCell ⟨w.heap.size + 1 + 1, 3, none⟩ (.int .u64 (wdI t 3))).drew) ∧ Blk (((((W.setCell ⟨w.heap.size + 1 + 1, 0, none⟩ (.int .u64 (wdI t 0))).setCell ⟨w.heap.size + 1 + 1, 1, none⟩ (.int .u64 (wdI t 1))).setCell ⟨w.heap.size + 1 + 1, 2, none⟩ (.int .u64 (wdI t 2))).setCell ⟨w.heap.size + 1 + 1, 3, none⟩ (.int .u64 (wdI t 3))).drew) (w.heap.size + 1 + 1) 47 #[.int .u64 (wdI t 0), .int .u64 (wdI t 1), .int .u64 (wdI t 2), .int .u64 (wdI t 3)]) := Lib.hid ⟨((((hB3.setCell (p := ⟨w.heap.size + 1 + 1, 0, none⟩) hlow _).setCell (p := ⟨w.heap.size + 1 + 1, 1, none⟩) hlow _).setCell (p := ⟨w.heap.size + 1 + 1, 2, none⟩) hlow _).setCell (p := ⟨w.heap.size + 1 + 1, 3, none⟩) hlow _).drew, hend⟩
    clear e1 e2 hb he hv ht hS hL hM hkn hk1 hk2 hk3 hW hend
    go_enter Tryz.func104, Tryz.ntmps104
    go_upto_region 3 with fail
    rw [← HW.out]
    go_wp2
    go_region
    all_goals (
      go_wp2
      obtain ⟨V, hV⟩ : ∃ V, V = ((((W.setCell ⟨w.heap.size + 1 + 1, 0, none⟩ (.int .u64 (wdI t 0))).setCell ⟨w.heap.size + 1 + 1, 1, none⟩ (.int .u64 (wdI t 1))).setCell ⟨w.heap.size + 1 + 1, 2, none⟩ (.int .u64 (wdI t 2))).setCell ⟨w.heap.size + 1 + 1, 3, none⟩ (.int .u64 (wdI t 3))).drew := ⟨_, rfl⟩
      rw [← hV] at HEnd ⊢
      obtain ⟨q0, q1, q2, q3⟩ := cells4q HEnd.out.2
      clear hV
      refine bodyPost_ret (v := .tuple #[.agg #[.int .u64 (wdI t 0), .int .u64 (wdI t 1), .int .u64 (wdI t 2), .int .u64 (wdI t 3)], .bool v]) (by simp [results, Tryz.results104, go_sem, q0, q1, q2, q3]) rfl ⟨rfl, ?_⟩
      exact HEnd.out.1)
end Go.Proofs.YtodnlcbnbkkanaaGreatDoor
end
section
namespace Go.Proofs.YtodnlcbnbkkanaaGreatDoor
open Go Go.RowKit

def cntZ (s : BS) : Nat := (List.range 256).countP fun b => !s.getLsbD b
theorem countP_less {p q : Nat → Bool} {c : Nat} : ∀ {l : List Nat}, c ∈ l → p c = true → q c = false → (∀ x, q x = true → p x = true) → l.countP q < l.countP p := by
  intro l
  induction l with
  | nil => intro h; cases h
  | cons y r ih =>
    intro h hp hq hi
    rw [List.countP_cons, List.countP_cons]
    have hmono : r.countP q ≤ r.countP p := List.countP_mono_left fun x _ hx => hi x hx
    rcases List.mem_cons.1 h with rfl | h
    · rw [hp, hq]; simp; omega
    · have := ih h hp hq hi
      by_cases hy : q y = true
      · rw [hy, hi y hy]; simp; omega
      · have : q y = false := by simpa using hy
        rw [this]; simp; split <;> omega
theorem or_bit {s m : BS} (h : s ||| m ≠ s) : ∃ b, b < 256 ∧ m.getLsbD b = true ∧ s.getLsbD b = false := by
  apply Classical.byContradiction
  intro hn
  refine h (BitVec.eq_of_getLsbD_eq fun i hi => ?_)
  rw [BitVec.getLsbD_or]
  cases hs : s.getLsbD i with
  | true => rfl
  | false =>
    cases hm : m.getLsbD i with
    | false => rfl
    | true => exact absurd ⟨i, hi, hm, hs⟩ hn
theorem cntZ_or {s m : BS} (h : s ||| m ≠ s) : cntZ (s ||| m) < cntZ s := by
  obtain ⟨b, hb, h1, h2⟩ := or_bit h
  refine countP_less (c := b) (List.mem_range.2 hb) (by rw [h2]; rfl) (by rw [BitVec.getLsbD_or, h1]; simp) fun x hx => ?_
  rw [BitVec.getLsbD_or] at hx
  simp only [Bool.not_or, Bool.and_eq_true] at hx
  exact hx.1
def sizeZ (L : List BS) : Nat := (L.map cntZ).foldr (· + ·) 0
theorem sizeZ_cons (s : BS) (L : List BS) : sizeZ (s :: L) = cntZ s + sizeZ L := rfl
theorem sizeZ_set : ∀ {L : List BS} {k : Nat} {s t : BS}, L[k]? = some s → cntZ t < cntZ s → sizeZ (L.set k t) < sizeZ L := by
  intro L
  induction L with
  | nil => intro k s t h; simp at h
  | cons a r ih =>
    intro k s t h hl
    cases k with
    | zero => simp at h; subst h; rw [List.set_cons_zero, sizeZ_cons, sizeZ_cons]; omega
    | succ k =>
      rw [List.set_cons_succ, sizeZ_cons, sizeZ_cons]
      have := ih (k := k) (by simpa using h) hl
      omega
theorem sub_bit {s m : BS} (h : s ||| m = s) {b : Nat} (hb : m.getLsbD b = true) : s.getLsbD b = true := by
  rw [← h, BitVec.getLsbD_or, hb, Bool.or_true]

def FirstP (g : GramM) (F : List BS) : Prop := F.length = g.sorts.length ∧ ∀ (k : Nat) (s : BS), F[k]? = some s → ∀ b : UInt8, s.getLsbD b.toNat = true ↔ ∃ t, TX g k (b :: t)
theorem bs_ext {s t : BS} (h : ∀ b : UInt8, s.getLsbD b.toNat = true ↔ t.getLsbD b.toNat = true) : s = t := by
  refine BitVec.eq_of_getLsbD_eq fun i hi => ?_
  have := h (UInt8.ofNat i)
  rw [UInt8.toNat_ofNat', Nat.mod_eq_of_lt (by omega)] at this
  cases c : s.getLsbD i <;> cases d : t.getLsbD i <;> rw [c, d] at this <;> simp at this <;> rfl
theorem FirstP.unique {g : GramM} {F F' : List BS} (h : FirstP g F) (h' : FirstP g F') : F = F' := by
  refine List.ext_getElem (h.1.trans h'.1.symm) fun k h1 h2 => bs_ext fun b => ?_
  rw [h.2 k _ (List.getElem?_eq_getElem h1) b, h'.2 k _ (List.getElem?_eq_getElem h2) b]
def SoundF (g : GramM) (F : List BS) : Prop := ∀ (k : Nat) (s : BS), F[k]? = some s → ∀ b : UInt8, s.getLsbD b.toNat = true → ∃ t, TX g k (b :: t)
theorem SoundF.none (g : GramM) : SoundF g (List.replicate g.sorts.length 0#256) := fun k s hk b hb => by
  rw [List.getElem?_replicate] at hk
  split at hk
  · cases hk; simp at hb
  · cases hk
def AheadE (M : List Bool) (l : List SymM) (i : Nat) : Prop := ∀ (j : Nat) (s : SymM), j < i → l[j]? = some s → symE M s = true
def QuietF (M : List Bool) (x : ProdM) (F : List BS) : Prop := ∀ (i : Nat) (s : SymM), x.right[i]? = some s → AheadE M x.right i → F.getD x.left.toNat 0#256 ||| symF F s = F.getD x.left.toNat 0#256
theorem symF_text {g : GramM} {F : List BS} (hF : SoundF g F) {s : SymM} (hk : s.kind = 0 ∨ s.kind = 1) {b : UInt8} (hb : (symF F s).getLsbD b.toNat = true) : ∃ t, SymT (TX g) s (b :: t) := by
  unfold symF at hb
  by_cases h0 : s.kind = 0
  · rw [if_pos h0] at hb
    exact ⟨[], .inr ⟨by omega, b, rfl, hb⟩⟩
  · rw [if_neg h0] at hb
    rw [List.getD_eq_getElem?_getD] at hb
    cases e : F[s.sort.toNat]? with
    | none => rw [e] at hb; simp at hb
    | some t =>
      rw [e] at hb
      obtain ⟨u, hu⟩ := hF _ t e b hb
      exact ⟨u, .inl ⟨by omega, hu⟩⟩
theorem symE_text {g : GramM} {M : List Bool} (hM : NullP g M) {s : SymM} (hk : s.kind = 0 ∨ s.kind = 1) (h : symE M s = true) : SymT (TX g) s [] := by
  unfold symE at h
  by_cases h0 : s.kind = 0
  · rw [if_pos h0] at h; cases h
  · rw [if_neg h0] at h
    exact .inl ⟨by omega, (hM.2 _).1 (by
      unfold lv at h
      rw [List.getD_eq_getElem?_getD] at h
      cases e : M[s.sort.toNat]? with
      | none => rw [e] at h; simp at h
      | some v => rw [e] at h; simp at h; rw [h])⟩
theorem SoundF.step {g : GramM} (hm : MayB g) {M L : List Bool} (hM : NullP g M) (hL : Live g L) (hs : MaySet g) {F : List BS} (hF : SoundF g F) {x : ProdM} (hx : x ∈ livL g L) {i : Nat} {s : SymM} (hi : x.right[i]? = some s) (ha : AheadE M x.right i) : SoundF g (F.set x.left.toNat (F.getD x.left.toNat 0#256 ||| symF F s)) := by
  obtain ⟨hxm, hr, hlv⟩ := livL_mem.1 hx
  intro k t hk b hb
  rw [List.getElem?_set] at hk
  split at hk
  · next e =>
    split at hk
    · next hlt =>
      cases hk
      subst e
      rw [BitVec.getLsbD_or, Bool.or_eq_true] at hb
      rcases hb with hb | hb
      · rw [List.getD_eq_getElem?_getD, List.getElem?_eq_getElem hlt] at hb
        exact hF _ _ (List.getElem?_eq_getElem hlt) b hb
      · obtain ⟨u, hu⟩ := symF_text hF (hm.kind x hxm s (List.mem_of_getElem? hi)) hb
        have e1 : x.right = x.right.take i ++ s :: x.right.drop (i + 1) := by
          have hil := (List.getElem?_eq_some_iff.1 hi).1
          have := (List.getElem?_eq_some_iff.1 hi).2
          rw [← this, List.getElem_cons_drop, List.take_append_drop]
        have h1 : ∀ (l : List SymM), (∀ y, y ∈ l → SymT (TX g) y []) → TXs (TX g) l [] := by
          intro l
          induction l with
          | nil => intro _; rfl
          | cons y r ih => intro h; exact ⟨[], [], rfl, h y (by simp), ih fun z hz => h z (by simp [hz])⟩
        have hp := h1 (x.right.take i) (fun y hy => by
          obtain ⟨j, hj⟩ := List.mem_iff_getElem?.1 hy
          have hjl := (List.getElem?_eq_some_iff.1 hj).1
          rw [List.length_take] at hjl
          rw [List.getElem?_take, if_pos (by omega)] at hj
          exact symE_text hM (hm.kind x hxm y (List.mem_of_getElem? hj)) (ha j y (by omega) hj))
        obtain ⟨v, hv⟩ : ∃ v, TXs (TX g) (x.right.drop (i + 1)) v := txs_of fun y hy => by
          have hym : y ∈ x.right := List.mem_of_mem_drop hy
          by_cases hyk : y.kind = 1
          · rw [List.any_eq_false] at hlv
            have := hlv y hym
            unfold lacksQ at this
            rw [hyk] at this
            have hl : lv L y.sort = true := by simpa using this
            have hpv : PV g y.sort.toNat := (hL.2 _).1 (by
              unfold lv at hl
              rw [List.getD_eq_getElem?_getD] at hl
              cases e : L[y.sort.toNat]? with
              | none => rw [e] at hl; simp at hl
              | some v => rw [e] at hl; simp at hl; rw [hl])
            obtain ⟨t, ht⟩ := (pv_iff hs).1 hpv
            exact ⟨t, .inl ⟨hyk, ht⟩⟩
          · obtain ⟨c, hc⟩ := bv_bit (hs.set x hxm y hym hyk).2
            exact ⟨[c], .inr ⟨hyk, c, rfl, hc⟩⟩
        have hall : TXs (TX g) x.right ([] ++ ((b :: u) ++ v)) := by
          rw [e1]
          exact hp.append ⟨b :: u, v, rfl, hu, hv⟩
        exact ⟨u ++ v, TX.mk hxm hr hall⟩
    · cases hk
  · exact hF k t hk b hb
theorem firstP_of {g : GramM} (hm : MayB g) (hs : MaySet g) {M L : List Bool} (hM : NullP g M) (hL : Live g L) {F : List BS} (hlen : F.length = g.sorts.length) (hF : SoundF g F) (hq : ∀ x, x ∈ livL g L → QuietF M x F) : FirstP g F := by
  have key : ∀ {k : Nat} {t : List UInt8}, TX g k t → TX g k t ∧ ∀ b u, t = b :: u → (F.getD k 0#256).getLsbD b.toNat = true := fun {k t} ht => by
    refine TX.ind (P := fun k t => TX g k t ∧ ∀ b u, t = b :: u → (F.getD k 0#256).getLsbD b.toNat = true) (fun x t hx hr h1 h2 => ⟨TX.mk hx hr h1, ?_⟩) ht
    have hxl : x ∈ livL g L := by
      refine livL_mem.2 ⟨hx, hr, ?_⟩
      rw [List.any_eq_false]
      intro s hsx
      unfold lacksQ
      by_cases hkk : s.kind = 1
      · obtain ⟨v, hv⟩ := txs_syms h1 s hsx hkk
        have hpv := (hL.2 _).2 ((pv_iff hs).2 ⟨v, hv⟩)
        have : lv L s.sort = true := by
          unfold lv
          rw [List.getD_eq_getElem?_getD, hpv]
          rfl
        rw [this]; simp
      · have : (s.kind == 1) = false := by simpa using hkk
        rw [this]; simp
    have hQ := hq x hxl
    have walk : ∀ (l : List SymM) (i : Nat) (t : List UInt8), x.right.drop i = l → AheadE M x.right i → TXs (fun k t => TX g k t ∧ ∀ b u, t = b :: u → (F.getD k 0#256).getLsbD b.toNat = true) l t → ∀ b u, t = b :: u → (F.getD x.left.toNat 0#256).getLsbD b.toNat = true := by
      intro l
      induction l with
      | nil => intro i t _ _ h b u e; cases h; cases e
      | cons s r ih =>
        rintro i t hd ha ⟨a, c, rfl, h3, h4⟩ b u e
        have hi : x.right[i]? = some s := by
          have := congrArg (fun l => l[0]?) hd
          simpa using this
        have hd2 : x.right.drop (i + 1) = r := by
          have := congrArg List.tail hd
          simpa using this
        have hk := hm.kind x hx s (List.mem_of_getElem? hi)
        cases a with
        | cons y ys =>
          rw [List.cons_append, List.cons.injEq] at e
          obtain ⟨rfl, _⟩ := e
          refine sub_bit (hQ i s hi ha) ?_
          unfold symF
          rcases h3 with ⟨hk1, _, h3⟩ | ⟨hk1, c', hc1, hc2⟩
          · rw [if_neg (by omega)]
            exact h3 _ _ rfl
          · rw [if_pos (by omega)]
            rw [List.cons.injEq] at hc1
            rw [hc1.1]; exact hc2
        | nil =>
          refine ih (i + 1) c hd2 (fun j s' hj hs' => ?_) h4 b u e
          by_cases ej : j = i
          · subst ej
            rw [hi] at hs'; cases hs'
            rcases h3 with ⟨hk1, h3, _⟩ | ⟨_, c', hc1, _⟩
            · unfold symE
              rw [if_neg (by omega)]
              have := (hM.2 _).2 h3
              unfold lv
              rw [List.getD_eq_getElem?_getD, this]
              rfl
            · cases hc1
          · exact ha j s' (by omega) hs'
    exact walk x.right 0 t (by simp) (fun j s hj => by omega) h2
  refine ⟨hlen, fun k s hk b => ⟨hF k s hk b, fun ⟨t, ht⟩ => ?_⟩⟩
  have := (key ht).2 b t rfl
  rw [List.getD_eq_getElem?_getD, hk] at this
  exact this
end Go.Proofs.YtodnlcbnbkkanaaGreatDoor
end
section
namespace Go.Proofs.YtodnlcbnbkkanaaGreatDoor
open Go Go.RowKit

theorem setsC_put {F : List BS} {k : Nat} {ds : Array Value} {t : BS} (hk : k < F.length) (hsz : ds.size = (setsC F).size) (ho : ∀ j, j < k * 4 ∨ k * 4 + 4 ≤ j → ds[j]? = (setsC F)[j]?) (hs : SetAt ds (k * 4) t) : ds = setsC (F.set k t) := by
  apply Array.ext_getElem?
  intro j
  by_cases hj : j < F.length * 4
  · have hq : j / 4 < F.length := by omega
    have e : j = j / 4 * 4 + j % 4 := by omega
    by_cases ek : j / 4 = k
    · have h1 := set_cell hs (j := j % 4) (by omega)
      have h2 := set_cell (setsC_at (L := F.set k t) (k := k) (s := t) (List.getElem?_set_self hk)) (j := j % 4) (by omega)
      rw [ek] at e
      rw [e, h1, h2]
    · obtain ⟨s, hs'⟩ : ∃ s, F[j / 4]? = some s := ⟨_, List.getElem?_eq_getElem hq⟩
      have h2 := set_cell (setsC_at (L := F.set k t) (k := j / 4) (s := s) (by rw [List.getElem?_set_ne (by omega)]; exact hs')) (j := j % 4) (by omega)
      have h3 := set_cell (setsC_at hs') (j := j % 4) (by omega)
      rw [ho j (by omega)]
      rw [← e] at h2 h3
      rw [h2, h3]
  · have h1 : ds[j]? = none := Array.getElem?_eq_none (by rw [hsz, setsC_size]; omega)
    have h2 : (setsC (F.set k t))[j]? = none := Array.getElem?_eq_none (by rw [setsC_size, List.length_set]; omega)
    rw [h1, h2]
structure FI (w : World) (Bb n k : Nat) (S : List BS → Prop) (M : List Bool) (l : List SymM) (F0 F : List BS) (nb : Bool) (i : Nat) (W : World) : Prop where
  g : w.grownBy W (some Bb)
  blk : Blk W Bb 47 (setsC F)
  len : F.length = n
  snd : S F
  ahead : AheadE M l i
  st : (nb = false ∧ F = F0 ∧ ∀ (j : Nat) (s : SymM), j < i → l[j]? = some s → F0.getD k 0#256 ||| symF F0 s = F0.getD k 0#256) ∨ (nb = true ∧ sizeZ F < sizeZ F0)
theorem FI.on {w : World} {Bb n k : Nat} {S : List BS → Prop} {M : List Bool} {l : List SymM} {F0 F : List BS} {nb : Bool} {i : Nat} {W V : World} (h : FI w Bb n k S M l F0 F nb i W) (hB : Below W.heap.size W V) : FI w Bb n k S M l F0 F nb i V :=
  ⟨grown_trans h.g (grown_below hB _), h.blk.below hB h.blk.lt, h.len, h.snd, h.ahead, h.st⟩
def F103Post (w : World) (Bb n : Nat) (S : List BS → Prop) (M : List Bool) (x : ProdM) (F : List BS) (e : Ending) (w' : World) : Prop := ∃ (F' : List BS) (b : Bool), e = .returned (.bool b) ∧ w.grownBy w' (some Bb) ∧ Blk w' Bb 47 (setsC F') ∧ F'.length = n ∧ S F' ∧ ((b = false ∧ F' = F ∧ QuietF M x F) ∨ (b = true ∧ sizeZ F' < sizeZ F))

set_option maxRecDepth 100000 in
set_option maxHeartbeats 8000000 in
theorem f103_any (x : ProdM) (F M : List _) (Bx Bb Be n k : Nat) (S : List BS → Prop) (w0 w : World) (hlow : Below w0.heap.size w0 w) (h0 : w0.heap.size ≤ Bb) (hx : Blk w Bx 118 #[.slice (some ⟨Bb, 0, none⟩) n n, .slice (some ⟨Be, 0, none⟩) n n]) (hb : Blk w Bb 47 (setsC F)) (he : Blk w Be 4 (bools M)) (hL : F.length = n) (hM : M.length = n) (hn : n ≤ 1000)
    (hp : ProdIn w0 x) (hr : x.right.length ≤ 30) (hkd : ∀ s, s ∈ x.right → s.kind = 0 ∨ s.kind = 1) (hsy : ∀ s, s ∈ x.right → s.kind = 1 → ∃ k : Nat, s.sort = k ∧ k < n) (hk : x.left = k) (hkn : k < n) (hS : S F)
    (hSt : ∀ (F : List BS) (i : Nat) (s : SymM), S F → F.length = n → x.right[i]? = some s → AheadE M x.right i → S (F.set k (F.getD k 0#256 ||| symF F s))) :
    Calls Tryz.prog 103 #[prodV x, .pointer (some ⟨Bx, 0, none⟩)] w (F103Post w Bb n S M x F) := by
  have hne : Bx ≠ Bb ∧ Be ≠ Bb := ⟨blk_ne hx hb (by decide), blk_ne he hb (by decide)⟩
  have hB1 : Below w.heap.size w (w.alloc (.cells (prodC x) 65)) := (Below.refl _ _).alloc (Nat.le_refl _) _
  have HI0 : Hid (FI w Bb n k S M x.right F F false 0 (w.alloc (.cells (prodC x) 65))) := Lib.hid ⟨grown_below hB1 _, hb.below hB1 hb.lt, hL, hS, fun j s hj => by omega, .inl ⟨rfl, rfl, fun j s hj => by omega⟩⟩
  have HBp := Lib.hid (Blk.new w 65 (prodC x))
  have hbx : Bx < w.heap.size := hx.lt
  have hbb : Bb < w.heap.size := hb.lt
  have hbe : Be < w.heap.size := he.lt
  have HW := Lib.hid (And.intro hx he)
  obtain ⟨ra, hra⟩ : ∃ ra, ra = x.ra := ⟨_, rfl⟩
  have HRow : Hid (RowSym w0 ra x.right ∧ Below w0.heap.size w0 w ∧ w0.heap.size ≤ Bb) := Lib.hid ⟨by rw [hra]; exact hp, hlow, h0⟩
  have HSy := Lib.hid (And.intro hkd hsy)
  have HSt := Lib.hid hSt
  have HNe := Lib.hid hne
  have HM := Lib.hid hM
  obtain ⟨xn, hxn⟩ : ∃ xn, xn = x.right.length := ⟨_, rfl⟩
  have HXn := Lib.hid hxn
  have HQ : Hid (∀ i : Nat, i ≤ xn → (i = xn ∨ ∃ s, x.right[i]? = some s ∧ symE M s = false ∧ F.getD k 0#256 ||| symF F s = F.getD k 0#256) → (∀ (j : Nat) (s : SymM), j < i → x.right[j]? = some s → F.getD k 0#256 ||| symF F s = F.getD k 0#256) → QuietF M x F) := Lib.hid (fun i hi hend h j s hj ha => by
    rw [hk, Int.toNat_natCast]
    by_cases e : j < i
    · exact h j s e hj
    · rcases hend with rfl | ⟨s', hs', hf, hq⟩
      · have h9 : j < x.right.length := (List.getElem?_eq_some_iff.1 hj).1
        omega
      · by_cases e2 : j = i
        · subst e2
          rw [hs'] at hj; cases hj
          exact hq
        · have := ha i s' (by omega) hs'
          rw [hf] at this; cases this)
  clear hlow h0 hx hb he hB1 hp hkd hsy hS hSt hL hM hne
  have HE : Hid (prodC x = #[.int .i64 (k : Int), .slice ra xn x.rc, .string x.cons, .int .i64 x.role, .bool x.prefer, .bool x.avoid, .int .i64 x.frm]) := Lib.hid (by rw [← hk, hxn, hra]; rfl)
  rw [← hxn] at hr
  unfold prodV
  rw [HE.out] at HBp HI0 ⊢
  have hpg : ∀ (W : World), w.grownBy W (some Bb) → True := fun _ _ => trivial
  obtain ⟨c0, c1, c2, c3, c4, c5, c6⟩ := cells7 HBp.out
  have HP0 : Hid (Blk (w.alloc (.cells #[.int .i64 (k : Int), .slice ra xn x.rc, .string x.cons, .int .i64 x.role, .bool x.prefer, .bool x.avoid, .int .i64 x.frm] 65)) w.heap.size 65 #[.int .i64 (k : Int), .slice ra xn x.rc, .string x.cons, .int .i64 x.role, .bool x.prefer, .bool x.avoid, .int .i64 x.frm]) := HBp
  clear hpg hxn hk HBp hra
  go_enter Tryz.func103, Tryz.ntmps103
  go_wp2
  go_loopg [4, 12] xn (fun gg v4 vi wr => ∃ (i : Nat) (nb : Bool) (F' : List BS), v4 = .bool nb ∧ vi = .int .i64 i ∧ i ≤ xn ∧ xn - i ≤ gg ∧ Hid (FI w Bb n k S M x.right F F' nb i wr ∧ Blk wr w.heap.size 65 #[.int .i64 (k : Int), .slice ra xn x.rc, .string x.cons, .int .i64 x.role, .bool x.prefer, .bool x.avoid, .int .i64 x.frm]))
  case atStart => exact ⟨0, false, F, rfl, rfl, Nat.zero_le _, Nat.le_refl _, Lib.hid ⟨HI0.out, HP0.out⟩⟩
  case round =>
    clear HI0 HP0 c0 c1 c2 c3 c4 c5 c6
    obtain ⟨i, nb, F', rfl, rfl, hi, hgg, K⟩ := hrel
    by_cases hlt : i < xn
    · obtain ⟨s, hs⟩ : ∃ s, x.right[i]? = some s := ⟨_, List.getElem?_eq_getElem (by rw [← HXn.out]; exact hlt)⟩
      obtain ⟨b1, o1, rfl, hb1, hc1, _⟩ := HRow.out.1 i s hs
      have hlow : Below w0.heap.size w0 wr := HRow.out.2.1.grown K.out.1.g HRow.out.2.1.size (fun k e => by cases e; exact HRow.out.2.2)
      obtain ⟨s0, s1, s2, s3, s4, s5⟩ := Sym_at (hc1.below hlow hb1)
      have hb1' := Nat.lt_of_lt_of_le hb1 hlow.size
      obtain ⟨d0, d1, d2, d3, d4, d5, d6⟩ := cells7 K.out.2
      have dl := K.out.2.lt
      have y1 : (i : Int) < (xn : Int) := by omega
      have y0 : (0 : Int) ≤ (i : Int) := by omega
      have hsm := List.mem_of_getElem? hs
      have HSi := Lib.hid hs
      have HKd := Lib.hid (And.intro (HSy.out.1 s hsm) (HSy.out.2 s hsm))
      have hkx := HW.out.1.kept K.out.1.g (by simpa using HNe.out.1)
      have hke := HW.out.2.kept K.out.1.g (by simpa using HNe.out.2)
      have hB2 : Below wr.heap.size wr (wr.alloc (.cells (symC s) 60)) := (Below.refl _ _).alloc (Nat.le_refl _) _
      have HB2 := Lib.hid hB2
      have hF2 := K.out.1.on hB2
      have HF2 := Lib.hid hF2
      have HP2 := Lib.hid (K.out.2.below hB2 dl)
      have HX2 := Lib.hid (And.intro (hkx.below hB2 hkx.lt) (hke.below hB2 hke.lt))
      have a0 := hkx.cell 0
      have a1 := hkx.cell 1
      have al := hkx.lt
      simp only [List.getElem?_toArray, List.getElem?_cons_zero, List.getElem?_cons_succ] at a0 a1
      have HOf := Lib.hid (bof_any F' M Bb Be n s (wr.alloc (.cells (symC s) 60)) hF2.blk HX2.out.2 hF2.len HM.out hn (HSy.out.1 s hsm) (HSy.out.2 s hsm))
      clear hs hc1 hlow hsm hkx hke hB2 hF2 K
      obtain ⟨m, hm⟩ : ∃ m, m = symF F' s := ⟨_, rfl⟩
      obtain ⟨ev, hev⟩ : ∃ ev, ev = symE M s := ⟨_, rfl⟩
      have HMm := Lib.hid (And.intro hm hev)
      rw [← hm, ← hev] at HOf
      clear hm hev
      obtain ⟨sk, ss, so⟩ := s
      unfold symV at HOf
      unfold symC at HOf HB2 HF2 HP2 HX2
      unfold vset at HOf
      dsimp only at *
      go_wp2_with fail
      refine HOf.out.mono ?_
      rintro e w3 ⟨rfl, hB3⟩
      have HF3 := Lib.hid (HF2.out.on hB3)
      have HP3 := Lib.hid (HP2.out.below hB3 HP2.out.lt)
      have HX3 := Lib.hid (And.intro (HX2.out.1.below hB3 HX2.out.1.lt) (HX2.out.2.below hB3 HX2.out.2.lt))
      clear hB3 HOf HF2 HP2 HX2 s0 s1 s2 s3 s4 s5 hb1' d0 d1 d2 d3 d4 d5 d6 dl a0 a1 al hb1 HB2
      have hB4 : Below w3.heap.size w3 (w3.alloc (.cells #[.int .u64 (wdI m 0), .int .u64 (wdI m 1), .int .u64 (wdI m 2), .int .u64 (wdI m 3)] 47)) := (Below.refl _ _).alloc (Nat.le_refl _) _
      obtain ⟨W4, hW4⟩ : ∃ W, W = w3.alloc (.cells #[.int .u64 (wdI m 0), .int .u64 (wdI m 1), .int .u64 (wdI m 2), .int .u64 (wdI m 3)] 47) := ⟨_, rfl⟩
      have HW4 := Lib.hid hW4
      have hmb := Blk.new w3 47 #[.int .u64 (wdI m 0), .int .u64 (wdI m 1), .int .u64 (wdI m 2), .int .u64 (wdI m 3)]
      rw [← hW4] at hB4 hmb
      have hF4 := HF3.out.on hB4
      have hP4 := HP3.out.below hB4 HP3.out.lt
      have hX4 := HX3.out.1.below hB4 HX3.out.1.lt
      obtain ⟨t, ht⟩ : ∃ t, F'[k]? = some t := ⟨_, List.getElem?_eq_getElem (by rw [hF4.len]; exact hkn)⟩
      have HT := Lib.hid ht
      have HF4 := Lib.hid hF4
      have HP4 := Lib.hid hP4
      have HGr := Lib.hid (grow_any Bb 47 (k * 4) (setsC F') t m W4.drew hF4.blk.drew (setsC_at ht))
      unfold vset at HGr
      clear hW4 hB4 ht HF3 HP3 HX3 hF4
      go_upto_region 6 with fail
      rw [← HW4.out]
      go_wp2
      refine wp_region_still_tail 6 (by kernel_rfl) (by kernel_rfl) ?_
      show wpStill _ _ (World.drew W4) _ _ _
      obtain ⟨V, hV⟩ : ∃ V, V = World.drew W4 := ⟨_, rfl⟩
      have HV := Lib.hid hV
      rw [← hV]
      have hF5 : FI w Bb n k S M x.right F F' nb i V := by rw [hV]; exact HF4.out.on ((Below.refl _ _).drew)
      have hP5 : Blk V w.heap.size 65 #[.int .i64 (k : Int), .slice (some ⟨b1, o1, none⟩) xn x.rc, .string x.cons, .int .i64 x.role, .bool x.prefer, .bool x.avoid, .int .i64 x.frm] := by rw [hV]; exact HP4.out.drew
      have hX5 : Blk V Bx 118 #[.slice (some ⟨Bb, 0, none⟩) n n, .slice (some ⟨Be, 0, none⟩) n n] := by rw [hV]; exact hX4.drew
      have hm5 : Blk V w3.heap.size 47 #[.int .u64 (wdI m 0), .int .u64 (wdI m 1), .int .u64 (wdI m 2), .int .u64 (wdI m 3)] := by rw [hV]; exact hmb.drew
      have x0 := hX5.cell 0
      have xl := hX5.lt
      have p0 := hP5.cell 0
      have pl := hP5.lt
      obtain ⟨m0, m1, m2, m3⟩ := cells4q hm5
      have ml := hm5.lt
      have kz1 : (k : Int) < (n : Int) := by omega
      have kz0 : (0 : Int) ≤ (k : Int) := by omega
      simp only [List.getElem?_toArray, List.getElem?_cons_zero] at x0 p0
      rw [← hV] at HGr
      have HF5 := Lib.hid hF5
      have HP5 := Lib.hid hP5
      clear hV hF5 hP5 hX5 hm5 hX4 hmb hP4 HF4 HP4
      simp only [List.take_succ_cons, List.take_zero, List.drop_succ_cons, List.drop_zero]
      repeat still_step
      refine wpStill_nil ?_
      show wpList _ _ _ _ _ (World.drew W4)
      rw [← HV.out]
      clear HV x0 xl p0 pl m0 m1 m2 m3 ml HW4
      go_wp2_with fail
      refine HGr.out.mono ?_
      rintro e w6 ⟨rfl, hg6, ds, hd1, hd2, hd3, hd4⟩
      have hkF : k < F'.length := by rw [HF5.out.len]; exact hkn
      have hds := setsC_put hkF hd2 hd3 hd4
      subst hds
      have hget : F'.getD k 0#256 = t := by rw [List.getD_eq_getElem?_getD, HT.out]; rfl
      have hstep := HSt.out F' i ⟨sk, ss, so⟩ HF5.out.snd HF5.out.len HSi.out HF5.out.ahead
      rw [hget, ← HMm.out.1] at hstep
      have HN : Hid (∃ nb', nb' = (if (t ||| m == t) = true then nb else true) ∧ w.grownBy w6 (some Bb) ∧ Blk w6 Bb 47 (setsC (F'.set k (t ||| m))) ∧ (F'.set k (t ||| m)).length = n ∧ S (F'.set k (t ||| m)) ∧
          ((nb' = false ∧ F'.set k (t ||| m) = F ∧ (∀ (j : Nat) (s : SymM), j < i + 1 → x.right[j]? = some s → F.getD k 0#256 ||| symF F s = F.getD k 0#256)) ∨ (nb' = true ∧ sizeZ (F'.set k (t ||| m)) < sizeZ F))) := Lib.hid ⟨_, rfl, grown_trans HF5.out.g hg6, hd1, by rw [List.length_set]; exact HF5.out.len, hstep, by
        by_cases hc : t ||| m = t
        · have hc2 : (t ||| m == t) = true := by simpa using hc
          have hsame : F'.set k (t ||| m) = F' := by
            rw [hc]
            refine List.ext_getElem? fun j => ?_
            by_cases e : k = j
            · subst e; rw [List.getElem?_set_self hkF, HT.out]
            · rw [List.getElem?_set_ne e]
          rw [if_pos hc2, hsame]
          rcases HF5.out.st with ⟨h1, h2, h3⟩ | h
          · refine .inl ⟨h1, h2, fun j s hj hs => ?_⟩
            by_cases e : j = i
            · subst e
              rw [HSi.out] at hs; cases hs
              rw [← h2, hget, ← HMm.out.1]
              exact hc
            · exact h3 j s (by omega) hs
          · exact .inr h
        · have hc2 : (t ||| m == t) = false := by simpa using hc
          have hlt2 := sizeZ_set HT.out (cntZ_or hc)
          rw [hc2, if_neg (by decide)]
          refine .inr ⟨rfl, ?_⟩
          rcases HF5.out.st with ⟨_, h2, _⟩ | h
          · rw [h2] at hlt2 ⊢; exact hlt2
          · omega⟩
      have HP6 := Lib.hid (HP5.out.kept hg6 (by
        have : w.heap.size ≠ Bb := by omega
        simpa using this))
      have Hahead : Hid (ev = true → AheadE M x.right (i + 1)) := Lib.hid (fun h j s hj hs => by
        by_cases e : j = i
        · subst e
          rw [HSi.out] at hs; cases hs
          rw [← HMm.out.2]; exact h
        · exact HF5.out.ahead j s (by omega) hs)
      have HEnd : Hid (ev = false → F.getD k 0#256 ||| symF F ⟨sk, ss, so⟩ = F.getD k 0#256 → (∀ (j : Nat) (s : SymM), j < i + 1 → x.right[j]? = some s → F.getD k 0#256 ||| symF F s = F.getD k 0#256) → QuietF M x F) := Lib.hid (fun h1 h2 h3 => HQ.out i (by omega) (.inr ⟨_, HSi.out, by rw [← HMm.out.2]; exact h1, h2⟩) (fun j s hj hs => h3 j s (by omega) hs))
      obtain ⟨q, hq⟩ : ∃ q, q = (t ||| m == t) := ⟨_, rfl⟩
      rw [← hq] at HN ⊢
      have HSiq := Lib.hid (fun h3 : (∀ (j : Nat) (s : SymM), j < i + 1 → x.right[j]? = some s → F.getD k 0#256 ||| symF F s = F.getD k 0#256) => h3 i _ (by omega) HSi.out)
      clear hg6 hd1 hd2 hd3 hd4 hkF hget hstep HF5 HP5 HGr hq HSt
      cases q with
      | true =>
        cases ev with
        | true =>
          have HN2 : Hid (w.grownBy w6 (some Bb) ∧ Blk w6 Bb 47 (setsC (F'.set k (t ||| m))) ∧ (F'.set k (t ||| m)).length = n ∧ S (F'.set k (t ||| m)) ∧ ((nb = false ∧ F'.set k (t ||| m) = F ∧ (∀ (j : Nat) (s : SymM), j < i + 1 → x.right[j]? = some s → F.getD k 0#256 ||| symF F s = F.getD k 0#256)) ∨ (nb = true ∧ sizeZ (F'.set k (t ||| m)) < sizeZ F))) := Lib.hid (by
            obtain ⟨nb', hnb, h⟩ := HN.out
            have hnb' : nb' = nb := hnb
            rw [hnb'] at h
            exact h)
          have HZ : Hid (FI w Bb n k S M x.right F (F'.set k (t ||| m)) nb (i + 1) w6) := Lib.hid ⟨HN2.out.1, HN2.out.2.1, HN2.out.2.2.1, HN2.out.2.2.2.1, Hahead.out rfl, HN2.out.2.2.2.2⟩
          clear HN HN2 Hahead HEnd HSiq
          go_wp2
          go_roundg (xn - (i + 1))
          case rel => exact ⟨i + 1, nb, _, rfl, by go_num, by omega, Nat.le_refl _, Lib.hid ⟨HZ.out, HP6.out⟩⟩
          case measure => omega
        | false =>
          have HN2 : Hid (w.grownBy w6 (some Bb) ∧ Blk w6 Bb 47 (setsC (F'.set k (t ||| m))) ∧ (F'.set k (t ||| m)).length = n ∧ S (F'.set k (t ||| m)) ∧ ((nb = false ∧ F'.set k (t ||| m) = F ∧ (∀ (j : Nat) (s : SymM), j < i + 1 → x.right[j]? = some s → F.getD k 0#256 ||| symF F s = F.getD k 0#256)) ∨ (nb = true ∧ sizeZ (F'.set k (t ||| m)) < sizeZ F))) := Lib.hid (by
            obtain ⟨nb', hnb, h⟩ := HN.out
            have hnb' : nb' = nb := hnb
            rw [hnb'] at h
            exact h)
          have HZ : Hid (F103Post w Bb n S M x F (.returned (.bool nb)) w6) := Lib.hid ⟨_, nb, rfl, HN2.out.1, HN2.out.2.1, HN2.out.2.2.1, HN2.out.2.2.2.1, HN2.out.2.2.2.2.imp (fun ⟨h1, h2, h3⟩ => ⟨h1, h2, HEnd.out rfl (HSiq.out h3) h3⟩) id⟩
          clear HN HN2 Hahead HEnd HSiq
          go_wp2
          go_ret
          exact HZ.out
      | false =>
        cases ev with
        | true =>
          have HN2 : Hid (w.grownBy w6 (some Bb) ∧ Blk w6 Bb 47 (setsC (F'.set k (t ||| m))) ∧ (F'.set k (t ||| m)).length = n ∧ S (F'.set k (t ||| m)) ∧ ((true = false ∧ F'.set k (t ||| m) = F ∧ (∀ (j : Nat) (s : SymM), j < i + 1 → x.right[j]? = some s → F.getD k 0#256 ||| symF F s = F.getD k 0#256)) ∨ (true = true ∧ sizeZ (F'.set k (t ||| m)) < sizeZ F))) := Lib.hid (by
            obtain ⟨nb', hnb, h⟩ := HN.out
            have hnb' : nb' = true := hnb
            rw [hnb'] at h
            exact h)
          have HZ : Hid (FI w Bb n k S M x.right F (F'.set k (t ||| m)) true (i + 1) w6) := Lib.hid ⟨HN2.out.1, HN2.out.2.1, HN2.out.2.2.1, HN2.out.2.2.2.1, Hahead.out rfl, HN2.out.2.2.2.2⟩
          clear HN HN2 Hahead HEnd HSiq
          go_wp2
          go_roundg (xn - (i + 1))
          case rel => exact ⟨i + 1, true, _, rfl, by go_num, by omega, Nat.le_refl _, Lib.hid ⟨HZ.out, HP6.out⟩⟩
          case measure => omega
        | false =>
          have HN2 : Hid (w.grownBy w6 (some Bb) ∧ Blk w6 Bb 47 (setsC (F'.set k (t ||| m))) ∧ (F'.set k (t ||| m)).length = n ∧ S (F'.set k (t ||| m)) ∧ ((true = false ∧ F'.set k (t ||| m) = F ∧ (∀ (j : Nat) (s : SymM), j < i + 1 → x.right[j]? = some s → F.getD k 0#256 ||| symF F s = F.getD k 0#256)) ∨ (true = true ∧ sizeZ (F'.set k (t ||| m)) < sizeZ F))) := Lib.hid (by
            obtain ⟨nb', hnb, h⟩ := HN.out
            have hnb' : nb' = true := hnb
            rw [hnb'] at h
            exact h)
          have HZ : Hid (F103Post w Bb n S M x F (.returned (.bool true)) w6) := Lib.hid ⟨_, true, rfl, HN2.out.1, HN2.out.2.1, HN2.out.2.2.1, HN2.out.2.2.2.1, HN2.out.2.2.2.2.imp (fun ⟨h1, h2, h3⟩ => ⟨h1, h2, HEnd.out rfl (HSiq.out h3) h3⟩) id⟩
          clear HN HN2 Hahead HEnd HSiq
          go_wp2
          go_ret
          exact HZ.out
    · obtain rfl : i = xn := by omega
      have HZ : Hid (F103Post w Bb n S M x F (.returned (.bool nb)) wr) := Lib.hid ⟨F', nb, rfl, K.out.1.g, K.out.1.blk, K.out.1.len, K.out.1.snd, K.out.1.st.imp (fun ⟨h1, h2, h3⟩ => ⟨h1, h2, HQ.out i (Nat.le_refl _) (.inl rfl) h3⟩) id⟩
      clear K
      go_wp2
      go_ret
      exact HZ.out
end Go.Proofs.YtodnlcbnbkkanaaGreatDoor
end
