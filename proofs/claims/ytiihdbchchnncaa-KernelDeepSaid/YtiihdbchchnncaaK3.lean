import Derived.Test.YtiihdbchchnncaaK2
namespace Go.Proofs.Ytiihdbchchnncaa
open Go Go.RowKit

/-- A block that holds the cells of a list. -/
theorem row_blk {α : Type} {cs : α → Array Value} {k : Nat} {G : World → α → Prop} (hk : ∀ x, (cs x).size = k) {W : World} {B t : Nat} {c : Array Value} {l : List α} (h : Blk W B t c) (hc : c.toList = cellsL cs l) (hG : ∀ x, x ∈ l → G W x) :
    RowOf k cs G W (some ⟨B, 0, none⟩) l := fun i x hx => by
  refine ⟨B, 0, rfl, h.lt, fun j v hv => ?_, hG x (List.mem_of_getElem? hx)⟩
  have hj : j < k := by
    have := (Array.getElem?_eq_some_iff.1 hv).1
    rw [hk] at this; exact this
  rw [Nat.zero_add, h.cell, ← Array.getElem?_toList, hc, cellsL_at hk l i x hx j hj]
  exact hv

/-- Where the known grammar's lists lie. -/
structure GKIn (w : World) (sa pa r0 r1 r2 r3 : Nat) : Prop where
  s : Blk w sa 9 #[.string ⟨#[83]⟩, .string ⟨#[65]⟩, .string ⟨#[66]⟩]
  p : Blk w pa 46 #[.int .i64 0, .slice (some ⟨r0, 0, none⟩) 1 1, .string ⟨#[]⟩, .int .i64 0, .bool false, .bool false, .int .i64 (-1), .int .i64 0, .slice (some ⟨r1, 0, none⟩) 2 2, .string ⟨#[]⟩, .int .i64 0, .bool false, .bool false, .int .i64 (-1),
    .int .i64 1, .slice (some ⟨r2, 0, none⟩) 1 1, .string ⟨#[]⟩, .int .i64 0, .bool false, .bool false, .int .i64 (-1), .int .i64 2, .slice (some ⟨r3, 0, none⟩) 1 1, .string ⟨#[]⟩, .int .i64 0, .bool false, .bool false, .int .i64 (-1)]
  a0 : Blk w r0 68 (symC ⟨1, 0, 1⟩)
  a1 : Blk w r1 68 (symC ⟨0, lx, 0⟩ ++ symC ⟨1, 0, 0⟩)
  a2 : Blk w r2 68 (symC ⟨0, la, 0⟩)
  a3 : Blk w r3 68 (symC ⟨1, 0, 2⟩)
theorem GKIn.inn {w : World} {sa pa r0 r1 r2 r3 : Nat} (h : GKIn w sa pa r0 r1 r2 r3) : GIn w (GK (some ⟨sa, 0, none⟩) (some ⟨pa, 0, none⟩) (some ⟨r0, 0, none⟩) (some ⟨r1, 0, none⟩) (some ⟨r2, 0, none⟩) (some ⟨r3, 0, none⟩)) := by
  refine ⟨row_blk (cs := strC) (k := 1) (fun _ => rfl) h.s (by simp [cellsL, strC, GK]) (fun _ _ => trivial), row_blk (cs := prodC) (k := 7) (fun _ => rfl) h.p (by simp [cellsL, prodC, GK]) (fun x hx => ?_), RowOf.nil _, RowOf.nil _⟩
  simp only [GK, List.mem_cons, List.not_mem_nil, or_false] at hx
  rcases hx with rfl | rfl | rfl | rfl
  · exact row_blk (cs := symC) (k := 6) (fun _ => rfl) h.a0 (by simp [cellsL]) (fun _ _ => trivial)
  · exact row_blk (cs := symC) (k := 6) (fun _ => rfl) h.a1 (by simp [cellsL]) (fun _ _ => trivial)
  · exact row_blk (cs := symC) (k := 6) (fun _ => rfl) h.a2 (by simp [cellsL]) (fun _ _ => trivial)
  · exact row_blk (cs := symC) (k := 6) (fun _ => rfl) h.a3 (by simp [cellsL]) (fun _ _ => trivial)
theorem GKIn.below {w W : World} {sa pa r0 r1 r2 r3 : Nat} (h : GKIn w sa pa r0 r1 r2 r3) (hB : Below w.heap.size w W) : GKIn W sa pa r0 r1 r2 r3 :=
  ⟨h.s.below hB h.s.lt, h.p.below hB h.p.lt, h.a0.below hB h.a0.lt, h.a1.below hB h.a1.lt, h.a2.below hB h.a2.lt, h.a3.below hB h.a3.lt⟩
theorem GK_fit (sa pa r0 r1 r2 r3 : Option Addr) : FitG (GK sa pa r0 r1 r2 r3) := by
  refine ⟨⟨by simp [GK], by simp [GK], fun x hx => ?_, by simp [GK], by simp [GK], fun f hf => by simp [GK] at hf, fun s hs => ?_⟩, fun f hf => by simp [GK] at hf, fun f hf => by simp [GK] at hf⟩
  · simp only [GK, List.mem_cons, List.not_mem_nil, or_false] at hx
    rcases hx with rfl | rfl | rfl | rfl <;> simp
  · simp only [GK, List.mem_cons, List.not_mem_nil, or_false] at hs
    rcases hs with rfl | rfl | rfl <;> decide

theorem cells3 {W : World} {B : Nat} {u0 u1 u2 : Value} (h : Blk W B 51 #[u0, u1, u2]) : W.cell? ⟨B, 0, none⟩ = some u0 ∧ W.cell? ⟨B, 1, none⟩ = some u1 ∧ W.cell? ⟨B, 2, none⟩ = some u2 := ⟨h.cell 0, h.cell 1, h.cell 2⟩
/-- What the kernel answers of the known grammar. -/
structure KnownA (G : Value) (w : World) : Prop where
  we : ∀ W, Below w.heap.size w W → Calls Try.prog 13 #[G] W fun e w' => e = .returned (.tuple #[.int .i64 161, .int .i64 2]) ∧ Below W.heap.size W w'
  fi : ∀ W, Below w.heap.size w W → Calls Try.prog 16 #[G, .string ⟨#[65]⟩] W fun e w' => e = .returned (.tuple #[.int .i64 1, .bool true]) ∧ Below W.heap.size W w'
  tr : ∀ W, Below w.heap.size w W → Calls Try.prog 25 #[G] W fun e w' => ∃ h : GramM, h.sorts.length = 2 ∧ h.prods.length = 3 ∧ e = .returned (.tuple #[.agg (gramC h), .int .i64 0]) ∧ Below W.heap.size W w'
  of : ∀ W, Below w.heap.size w W → Calls Try.prog 17 #[G, .int .i64 0] W fun e w' => ∃ a c, e = .returned (.tuple #[.slice a 2 c, .int .i64 0]) ∧ Below W.heap.size W w'
  ck : ∀ W, Below w.heap.size w W → Calls Try.prog 15 #[G] W fun e w' => e = .returned (.int .i64 0) ∧ Below W.heap.size W w'
  ct : ∀ W a b, Below w.heap.size w W → TreeIn W (TK a b) → Calls Try.prog 22 #[G, treeV (TK a b)] W fun e w' => e = .returned (.int .i64 0) ∧ Below W.heap.size W w'
theorem TK_fit (a b : Option Addr) : TFit 16384 (TK a b) := by
  have h0 : TFit 16382 (.node (-1) 97 none 0 []) := by
    show TFit (16381 + 1) _
    rw [TFit]
    exact ⟨by simp, ⟨97, rfl, by decide⟩, fun k hk => by cases hk⟩
  have h1 : TFit 16383 (.node 2 0 b 1 [.node (-1) 97 none 0 []]) := by
    show TFit (16382 + 1) _
    rw [TFit]
    exact ⟨by simp, ⟨0, rfl, by decide⟩, fun k hk => by simp at hk; rw [hk]; exact h0⟩
  unfold TK
  show TFit (16383 + 1) _
  rw [TFit]
  exact ⟨by simp, ⟨0, rfl, by decide⟩, fun k hk => by simp at hk; rw [hk]; exact h1⟩
theorem knownA {w : World} {sa pa r0 r1 r2 r3 : Nat} (h : GKIn w sa pa r0 r1 r2 r3) : KnownA (.agg #[.slice (some ⟨sa, 0, none⟩) 3 3, .slice (some ⟨pa, 0, none⟩) 4 4, .int .i64 0, .slice none 0 0, .slice none 0 0]) w := by
  have hf := GK_fit (some ⟨sa, 0, none⟩) (some ⟨pa, 0, none⟩) (some ⟨r0, 0, none⟩) (some ⟨r1, 0, none⟩) (some ⟨r2, 0, none⟩) (some ⟨r3, 0, none⟩)
  have hn : NilOK (GK (some ⟨sa, 0, none⟩) (some ⟨pa, 0, none⟩) (some ⟨r0, 0, none⟩) (some ⟨r1, 0, none⟩) (some ⟨r2, 0, none⟩) (some ⟨r3, 0, none⟩)) := ⟨fun h => (by cases h), fun h => (by cases h), fun _ => rfl, fun _ => rfl, fun x hx hr => by
    simp only [GK, List.mem_cons, List.not_mem_nil, or_false] at hx
    rcases hx with rfl | rfl | rfl | rfl <;> cases hr⟩
  refine ⟨fun W hW => ?_, fun W hW => ?_, fun W hW => ?_, fun W hW => ?_, fun W hW => ?_, fun W a b hW ht => ?_⟩
  · refine (well_any _ W (h.below hW).inn hf).mono ?_
    rintro e w' ⟨r, hr, rfl, hB⟩
    rw [GK_well _ _ _ _ _ _ hr]
    exact ⟨rfl, hB⟩
  · refine (find_call _ ⟨#[65]⟩ (by decide) W (h.below hW).inn hf.fit).mono ?_
    rintro e w' ⟨rfl, hB⟩
    rw [GK_find]
    exact ⟨rfl, hB⟩
  · refine (trim_any _ W (h.below hW).inn hf hn).mono ?_
    rintro e w' ⟨ht, hB⟩
    obtain ⟨g, h1, h2, _, h4⟩ := GK_trim _ _ _ _ _ _ ht
    exact ⟨g, h1, h2, h4, hB⟩
  · refine (of_any _ 0 W (h.below hW).inn hf).mono ?_
    rintro e w' ⟨ho, hB⟩
    obtain ⟨a, c, h1⟩ := GK_of _ _ _ _ _ _ ho
    exact ⟨a, c, h1, hB⟩
  · refine (check_any _ W (h.below hW).inn hf).mono ?_
    rintro e w' ⟨rfl, hB⟩
    rw [GK_check]
    exact ⟨rfl, hB⟩
  · refine (checkTree_any _ (TK a b) W (h.below hW).inn hf ht (TK_fit a b)).mono ?_
    rintro e w' ⟨rfl, hB⟩
    rw [TK_ct]
    exact ⟨rfl, hB⟩
theorem known_yield (W : World) (a b : Option Addr) (ht : TreeIn W (TK a b)) : Calls Try.prog 21 #[treeV (TK a b)] W fun e w' => e = .returned (.tuple #[.string ⟨#[97]⟩, .int .i64 0]) ∧ Below W.heap.size W w' := by
  refine (yield_any (TK a b) W ht (TK_fit a b) (by rw [show (yieldL 16384 (TK a b)).length = 1 by kernel_rfl]; decide)).mono ?_
  rintro e w' ⟨rfl, hB⟩
  rw [TK_nest, if_pos rfl, TK_yield]
  exact ⟨rfl, hB⟩
theorem zero_check (W : World) : Calls Try.prog 15 #[.agg #[.slice none 0 0, .slice none 0 0, .int .i64 0, .slice none 0 0, .slice none 0 0]] W fun e w' => e = .returned (.int .i64 160) ∧ Below W.heap.size W w' := by
  have hf : FitG zeroG := by
    refine ⟨⟨by simp [zeroG], by simp [zeroG], fun x hx => by simp [zeroG] at hx, by simp [zeroG], by simp [zeroG], fun f hf => by simp [zeroG] at hf, fun s hs => by simp [zeroG] at hs⟩, fun f hf => by simp [zeroG] at hf, fun f hf => by simp [zeroG] at hf⟩
  have hg : GIn W zeroG := ⟨RowOf.nil _, RowOf.nil _, RowOf.nil _, RowOf.nil _⟩
  refine (check_any zeroG W hg hf).mono ?_
  rintro e w' ⟨rfl, hB⟩
  rw [zeroG_check]
  exact ⟨rfl, hB⟩

set_option maxRecDepth 100000 in
set_option maxHeartbeats 4000000 in
theorem known_any (w : World) : Calls Try.prog 10 #[] w fun e w' => e = .returned (.bool true) ∧ Below w.heap.size w w' := by
  have HS1 := Lib.hid (fun W => sortSym_any 1 W)
  have HS0 := Lib.hid (fun W => sortSym_any 0 W)
  have HS2 := Lib.hid (fun W => sortSym_any 2 W)
  have HLx := Lib.hid letter_x
  have HLa := Lib.hid letter_a
  obtain ⟨z, hz⟩ : ∃ z : BS, z = 0 := ⟨_, rfl⟩
  obtain ⟨bx, hbx⟩ : ∃ z : BS, z = lx := ⟨_, rfl⟩
  obtain ⟨ba, hba⟩ : ∃ z : BS, z = la := ⟨_, rfl⟩
  rw [← hz] at HS1 HS0 HS2
  rw [← hbx] at HLx
  rw [← hba] at HLa
  have HZ := Lib.hid hz
  have HX := Lib.hid hbx
  have HA := Lib.hid hba
  clear hz hbx hba
  unfold symV symC at HS1 HS0 HS2
  unfold vset at HLx HLa
  go_enter Try.func10, Try.ntmps10
  go_wp2_with fail
  have hk := Blk.new w 9 #[.string ⟨#[83]⟩, .string ⟨#[65]⟩, .string ⟨#[66]⟩]
  have hB0 : Below w.heap.size w (w.alloc (.cells #[.string ⟨#[83]⟩, .string ⟨#[65]⟩, .string ⟨#[66]⟩] 9)) := (Below.refl _ _).alloc (Nat.le_refl _) _
  have HK := Lib.hid hk
  have HB := Lib.hid hB0
  clear hk hB0
  with_reducible refine (HS1.out _).mono ?_
  rintro e w1 ⟨rfl, hB1⟩
  have HK1 := Lib.hid (HK.out.below hB1 HK.out.lt)
  have HB1 := Lib.hid (HB.out.trans (hB1.mono HB.out.size))
  clear hB1 HK HB HS1
  go_wp2_with fail
  with_reducible refine (HLx.out _).mono ?_
  rintro e w2 ⟨rfl, hB2⟩
  have hA1 : Below w1.heap.size w1 (w1.alloc (.cells #[.int .i64 1, .int .u64 (wdI z 0), .int .u64 (wdI z 1), .int .u64 (wdI z 2), .int .u64 (wdI z 3), .int .i64 1] 68)) := (Below.refl _ _).alloc (Nat.le_refl _) _
  have hr0 := Blk.new w1 68 #[.int .i64 1, .int .u64 (wdI z 0), .int .u64 (wdI z 1), .int .u64 (wdI z 2), .int .u64 (wdI z 3), .int .i64 1]
  have HR0 := Lib.hid (hr0.below hB2 hr0.lt)
  have HK2 := Lib.hid ((HK1.out.below hA1 HK1.out.lt).below hB2 (Nat.lt_of_lt_of_le HK1.out.lt hA1.size))
  have HB2 := Lib.hid (HB1.out.trans ((hA1.trans (hB2.mono hA1.size)).mono HB1.out.size))
  clear hA1 hr0 hB2 HK1 HB1 HLx
  go_wp2_with fail
  with_reducible refine (HS0.out _).mono ?_
  rintro e w3 ⟨rfl, hB3⟩
  have HK3 := Lib.hid (HK2.out.below hB3 HK2.out.lt)
  have HR03 := Lib.hid (HR0.out.below hB3 HR0.out.lt)
  have HB3 := Lib.hid (HB2.out.trans (hB3.mono HB2.out.size))
  clear hB3 HK2 HR0 HB2 HS0
  go_wp2_with fail
  with_reducible refine (HLa.out _).mono ?_
  rintro e w4 ⟨rfl, hB4⟩
  have hA3 : Below w3.heap.size w3 (w3.alloc (.cells #[.int .i64 0, .int .u64 (wdI bx 0), .int .u64 (wdI bx 1), .int .u64 (wdI bx 2), .int .u64 (wdI bx 3), .int .i64 0, .int .i64 1, .int .u64 (wdI z 0), .int .u64 (wdI z 1), .int .u64 (wdI z 2), .int .u64 (wdI z 3), .int .i64 0] 68)) := (Below.refl _ _).alloc (Nat.le_refl _) _
  have hr1 := Blk.new w3 68 #[.int .i64 0, .int .u64 (wdI bx 0), .int .u64 (wdI bx 1), .int .u64 (wdI bx 2), .int .u64 (wdI bx 3), .int .i64 0, .int .i64 1, .int .u64 (wdI z 0), .int .u64 (wdI z 1), .int .u64 (wdI z 2), .int .u64 (wdI z 3), .int .i64 0]
  have HR14 := Lib.hid (hr1.below hB4 hr1.lt)
  have hB34 := hA3.trans (hB4.mono hA3.size)
  have HK4 := Lib.hid (HK3.out.below hB34 HK3.out.lt)
  have HR04 := Lib.hid (HR03.out.below hB34 HR03.out.lt)
  have HB4 := Lib.hid (HB3.out.trans (hB34.mono HB3.out.size))
  clear hA3 hr1 hB4 hB34 HK3 HR03 HB3 HLa
  go_wp2_with fail
  with_reducible refine (HS2.out _).mono ?_
  rintro e w5 ⟨rfl, hB5⟩
  have hA4 : Below w4.heap.size w4 (w4.alloc (.cells #[.int .i64 0, .int .u64 (wdI ba 0), .int .u64 (wdI ba 1), .int .u64 (wdI ba 2), .int .u64 (wdI ba 3), .int .i64 0] 68)) := (Below.refl _ _).alloc (Nat.le_refl _) _
  have hr2 := Blk.new w4 68 #[.int .i64 0, .int .u64 (wdI ba 0), .int .u64 (wdI ba 1), .int .u64 (wdI ba 2), .int .u64 (wdI ba 3), .int .i64 0]
  have HR25 := Lib.hid (hr2.below hB5 hr2.lt)
  have hB45 := hA4.trans (hB5.mono hA4.size)
  have HK5 := Lib.hid (HK4.out.below hB45 HK4.out.lt)
  have HR05 := Lib.hid (HR04.out.below hB45 HR04.out.lt)
  have HR15 := Lib.hid (HR14.out.below hB45 HR14.out.lt)
  have HB5 := Lib.hid (HB4.out.trans (hB45.mono HB4.out.size))
  clear hA4 hr2 hB5 hB45 HK4 HR04 HR14 HB4 HS2
  obtain ⟨W6, hW6⟩ : ∃ W, W = ((w5.alloc (.cells #[.int .i64 1, .int .u64 (wdI z 0), .int .u64 (wdI z 1), .int .u64 (wdI z 2), .int .u64 (wdI z 3), .int .i64 2] 68)).alloc (.cells #[.int .i64 0, .slice (some ⟨w1.heap.size, 0, none⟩) 1 1, .string ⟨#[]⟩, .int .i64 0, .bool false, .bool false, .int .i64 (-1), .int .i64 0, .slice (some ⟨w3.heap.size, 0, none⟩) 2 2, .string ⟨#[]⟩, .int .i64 0, .bool false, .bool false, .int .i64 (-1), .int .i64 1, .slice (some ⟨w4.heap.size, 0, none⟩) 1 1, .string ⟨#[]⟩, .int .i64 0, .bool false, .bool false, .int .i64 (-1), .int .i64 2, .slice (some ⟨w5.heap.size, 0, none⟩) 1 1, .string ⟨#[]⟩, .int .i64 0, .bool false, .bool false, .int .i64 (-1)] 46)).alloc (.cells #[.slice (some ⟨w.heap.size, 0, none⟩) 3 3, .slice (some ⟨w5.heap.size + 1, 0, none⟩) 4 4, .int .i64 0, .slice none 0 0, .slice none 0 0] 27) := ⟨_, rfl⟩
  have hA5 : Below w5.heap.size w5 W6 := by rw [hW6]; exact (((Below.refl _ _).alloc (Nat.le_refl _) _).alloc (by simp) _).alloc (by simp; omega) _
  have hr3 : Blk W6 w5.heap.size 68 #[.int .i64 1, .int .u64 (wdI z 0), .int .u64 (wdI z 1), .int .u64 (wdI z 2), .int .u64 (wdI z 3), .int .i64 2] := by rw [hW6]; exact ((Blk.new w5 68 _).alloc _).alloc _
  have hpr : Blk W6 (w5.heap.size + 1) 46 #[.int .i64 0, .slice (some ⟨w1.heap.size, 0, none⟩) 1 1, .string ⟨#[]⟩, .int .i64 0, .bool false, .bool false, .int .i64 (-1), .int .i64 0, .slice (some ⟨w3.heap.size, 0, none⟩) 2 2, .string ⟨#[]⟩, .int .i64 0, .bool false, .bool false, .int .i64 (-1), .int .i64 1, .slice (some ⟨w4.heap.size, 0, none⟩) 1 1, .string ⟨#[]⟩, .int .i64 0, .bool false, .bool false, .int .i64 (-1), .int .i64 2, .slice (some ⟨w5.heap.size, 0, none⟩) 1 1, .string ⟨#[]⟩, .int .i64 0, .bool false, .bool false, .int .i64 (-1)] := by
    have h := Blk.new (w5.alloc (.cells #[.int .i64 1, .int .u64 (wdI z 0), .int .u64 (wdI z 1), .int .u64 (wdI z 2), .int .u64 (wdI z 3), .int .i64 2] 68)) 46 #[.int .i64 0, .slice (some ⟨w1.heap.size, 0, none⟩) 1 1, .string ⟨#[]⟩, .int .i64 0, .bool false, .bool false, .int .i64 (-1), .int .i64 0, .slice (some ⟨w3.heap.size, 0, none⟩) 2 2, .string ⟨#[]⟩, .int .i64 0, .bool false, .bool false, .int .i64 (-1), .int .i64 1, .slice (some ⟨w4.heap.size, 0, none⟩) 1 1, .string ⟨#[]⟩, .int .i64 0, .bool false, .bool false, .int .i64 (-1), .int .i64 2, .slice (some ⟨w5.heap.size, 0, none⟩) 1 1, .string ⟨#[]⟩, .int .i64 0, .bool false, .bool false, .int .i64 (-1)]
    rw [World.size_alloc] at h
    rw [hW6]; exact h.alloc _
  have hgb : Blk W6 (w5.heap.size + 2) 27 #[.slice (some ⟨w.heap.size, 0, none⟩) 3 3, .slice (some ⟨w5.heap.size + 1, 0, none⟩) 4 4, .int .i64 0, .slice none 0 0, .slice none 0 0] := by
    have h := Blk.new ((w5.alloc (.cells #[.int .i64 1, .int .u64 (wdI z 0), .int .u64 (wdI z 1), .int .u64 (wdI z 2), .int .u64 (wdI z 3), .int .i64 2] 68)).alloc (.cells #[.int .i64 0, .slice (some ⟨w1.heap.size, 0, none⟩) 1 1, .string ⟨#[]⟩, .int .i64 0, .bool false, .bool false, .int .i64 (-1), .int .i64 0, .slice (some ⟨w3.heap.size, 0, none⟩) 2 2, .string ⟨#[]⟩, .int .i64 0, .bool false, .bool false, .int .i64 (-1), .int .i64 1, .slice (some ⟨w4.heap.size, 0, none⟩) 1 1, .string ⟨#[]⟩, .int .i64 0, .bool false, .bool false, .int .i64 (-1), .int .i64 2, .slice (some ⟨w5.heap.size, 0, none⟩) 1 1, .string ⟨#[]⟩, .int .i64 0, .bool false, .bool false, .int .i64 (-1)] 46)) 27 #[.slice (some ⟨w.heap.size, 0, none⟩) 3 3, .slice (some ⟨w5.heap.size + 1, 0, none⟩) 4 4, .int .i64 0, .slice none 0 0, .slice none 0 0]
    rw [World.size_alloc, World.size_alloc] at h
    rw [hW6]; exact h
  have HGK : Hid (GKIn W6 w.heap.size (w5.heap.size + 1) w1.heap.size w3.heap.size w4.heap.size w5.heap.size) := Lib.hid ⟨HK5.out.below hA5 HK5.out.lt, hpr, by
      have h := HR05.out.below hA5 HR05.out.lt
      rw [HZ.out] at h; exact h, by
      have h := HR15.out.below hA5 HR15.out.lt
      rw [HZ.out, HX.out] at h; exact h, by
      have h := HR25.out.below hA5 HR25.out.lt
      rw [HA.out] at h; exact h, by
      have h := hr3
      rw [HZ.out] at h; exact h⟩
  have HB6 := Lib.hid (HB5.out.trans (hA5.mono HB5.out.size))
  have HGb := Lib.hid hgb
  clear hA5 hr3 hpr hgb HK5 HR05 HR15 HR25 HB5
  go_wp2_with fail
  rw [← hW6]
  have HKA := Lib.hid (knownA HGK.out)
  clear hW6 HZ HX HA HGK
  obtain ⟨B2, hb2⟩ : ∃ b, b = w5.heap.size + 1 + 1 := ⟨_, rfl⟩
  rw [← hb2]
  have HGb : Hid (Blk W6 B2 27 #[.slice (some ⟨w.heap.size, 0, none⟩) 3 3, .slice (some ⟨w5.heap.size + 1, 0, none⟩) 4 4, .int .i64 0, .slice none 0 0, .slice none 0 0]) := Lib.hid (by rw [hb2]; exact HGb.out)
  clear hb2
  obtain ⟨Bp, hbp⟩ : ∃ b, b = w5.heap.size + 1 := ⟨_, rfl⟩
  rw [← hbp] at HGb HKA ⊢
  clear hbp
  obtain ⟨c0, c1, c2, c3, c4⟩ := cells5 HGb.out
  have l6 := HGb.out.lt
  with_reducible refine (HKA.out.we W6 (Below.refl _ _)).mono ?_
  rintro e w7 ⟨rfl, hB7⟩
  have HB7 := Lib.hid hB7
  have hg7 := HGb.out.below hB7 l6
  obtain ⟨c0, c1, c2, c3, c4⟩ := cells5 hg7
  have l7 := hg7.lt
  have HG7 := Lib.hid hg7
  clear hB7 hg7
  go_wp2_with fail
  with_reducible refine (HKA.out.fi w7 HB7.out).mono ?_
  rintro e w8 ⟨rfl, hB8⟩
  have HB8 := Lib.hid (HB7.out.trans (hB8.mono HB7.out.size))
  have hg8 := HG7.out.below hB8 l7
  obtain ⟨c0, c1, c2, c3, c4⟩ := cells5 hg8
  have l8 := hg8.lt
  have HG8 := Lib.hid hg8
  clear hB8 hg8
  go_wp2_with fail
  with_reducible refine (HKA.out.tr w8 HB8.out).mono ?_
  rintro e w9 ⟨h, hs, hp, rfl, hB9⟩
  unfold gramC
  rw [hs, hp]
  have HB9 := Lib.hid (HB8.out.trans (hB9.mono HB8.out.size))
  have hg9 := HG8.out.below hB9 l8
  obtain ⟨c0, c1, c2, c3, c4⟩ := cells5 hg9
  have l9 := hg9.lt
  have HG9 := Lib.hid hg9
  clear hB9 hg9
  go_wp2_with fail
  obtain ⟨W10, hW10⟩ : ∃ W, W = (((w9.alloc (.cells #[.slice h.sa 2 h.sc, .slice h.pa 3 h.pc, .int .i64 h.start, .slice h.fa h.forbid.length h.fc, .slice h.wa h.follow.length h.wc] 27)).alloc (.cells #[.int .i64 (-1), .int .u8 97, .slice none 0 0] 51)).alloc (.cells #[.int .i64 2, .int .u8 0, .slice (some ⟨w9.heap.size + 1, 0, none⟩) 1 1] 51)).alloc (.cells #[.int .i64 0, .int .u8 0, .slice (some ⟨w9.heap.size + 1 + 1, 0, none⟩) 1 1] 51) := ⟨_, rfl⟩
  rw [← hW10]
  have hA9 : Below w9.heap.size w9 W10 := by rw [hW10]; exact ((((Below.refl _ _).alloc (Nat.le_refl _) _).alloc (by simp) _).alloc (by simp; omega) _).alloc (by simp; omega) _
  have hhb : Blk W10 w9.heap.size 27 #[.slice h.sa 2 h.sc, .slice h.pa 3 h.pc, .int .i64 h.start, .slice h.fa h.forbid.length h.fc, .slice h.wa h.follow.length h.wc] := by rw [hW10]; exact (((Blk.new w9 27 _).alloc _).alloc _).alloc _
  have hlf : Blk W10 (w9.heap.size + 1) 51 #[.int .i64 (-1), .int .u8 97, .slice none 0 0] := by
    have h := Blk.new (w9.alloc (.cells #[.slice h.sa 2 h.sc, .slice h.pa 3 h.pc, .int .i64 h.start, .slice h.fa h.forbid.length h.fc, .slice h.wa h.follow.length h.wc] 27)) 51 #[.int .i64 (-1), .int .u8 97, .slice none 0 0]
    rw [World.size_alloc] at h
    rw [hW10]; exact (h.alloc _).alloc _
  have hnd : Blk W10 (w9.heap.size + 1 + 1) 51 #[.int .i64 2, .int .u8 0, .slice (some ⟨w9.heap.size + 1, 0, none⟩) 1 1] := by
    have h := Blk.new ((w9.alloc (.cells #[.slice h.sa 2 h.sc, .slice h.pa 3 h.pc, .int .i64 h.start, .slice h.fa h.forbid.length h.fc, .slice h.wa h.follow.length h.wc] 27)).alloc (.cells #[.int .i64 (-1), .int .u8 97, .slice none 0 0] 51)) 51 #[.int .i64 2, .int .u8 0, .slice (some ⟨w9.heap.size + 1, 0, none⟩) 1 1]
    rw [World.size_alloc, World.size_alloc] at h
    rw [hW10]; exact h.alloc _
  have hrt : Blk W10 (w9.heap.size + 1 + 1 + 1) 51 #[.int .i64 0, .int .u8 0, .slice (some ⟨w9.heap.size + 1 + 1, 0, none⟩) 1 1] := by
    have h := Blk.new (((w9.alloc (.cells #[.slice h.sa 2 h.sc, .slice h.pa 3 h.pc, .int .i64 h.start, .slice h.fa h.forbid.length h.fc, .slice h.wa h.follow.length h.wc] 27)).alloc (.cells #[.int .i64 (-1), .int .u8 97, .slice none 0 0] 51)).alloc (.cells #[.int .i64 2, .int .u8 0, .slice (some ⟨w9.heap.size + 1, 0, none⟩) 1 1] 51)) 51 #[.int .i64 0, .int .u8 0, .slice (some ⟨w9.heap.size + 1 + 1, 0, none⟩) 1 1]
    rw [World.size_alloc, World.size_alloc, World.size_alloc] at h
    rw [hW10]; exact h
  have hin : TreeIn W10 (TK (some ⟨w9.heap.size + 1 + 1, 0, none⟩) (some ⟨w9.heap.size + 1, 0, none⟩)) := by
    have h0 : TreeIn W10 (.node (-1) 97 none 0 []) := (tree_in ..).2 (RowOf.nil _)
    have h1 : TreeIn W10 (.node 2 0 (some ⟨w9.heap.size + 1, 0, none⟩) 1 [.node (-1) 97 none 0 []]) := (tree_in ..).2 (row_blk (cs := treeC) (k := 3) (fun x => by cases x; rfl) hlf (by simp [cellsL, treeC]) (fun x hx => by simp at hx; rw [hx]; exact h0))
    exact (tree_in ..).2 (row_blk (cs := treeC) (k := 3) (fun x => by cases x; rfl) hnd (by simp [cellsL, treeC]) (fun x hx => by simp at hx; rw [hx]; exact h1))
  have HG10 := Lib.hid (HG9.out.below hA9 HG9.out.lt)
  have HB10 := Lib.hid (HB9.out.trans (hA9.mono HB9.out.size))
  have HH10 := Lib.hid hhb
  have HT10 := Lib.hid hrt
  have HI10 := Lib.hid hin
  have HY := Lib.hid (known_yield W10 _ _ hin)
  simp only [TK, treeV, treeC, List.length_cons, List.length_nil, Nat.zero_add] at HY
  clear hhb hlf hnd hrt hin hA9 hW10
  with_reducible refine HY.out.mono ?_
  rintro e w11 ⟨rfl, hB11⟩
  have HB11 := Lib.hid (HB10.out.trans (hB11.mono HB10.out.size))
  have HG11 := Lib.hid (HG10.out.below hB11 HG10.out.lt)
  have HH11 := Lib.hid (HH10.out.below hB11 HH10.out.lt)
  have HT11 := Lib.hid (HT10.out.below hB11 HT10.out.lt)
  have HI11 := Lib.hid (TreeIn.below hB11 _ HI10.out)
  obtain ⟨c0, c1, c2, c3, c4⟩ := cells5 HG11.out
  obtain ⟨d0, d1, d2, d3, d4⟩ := cells5 HH11.out
  obtain ⟨t0, t1, t2⟩ := cells3 HT11.out
  have lg11 := HG11.out.lt
  have lh11 := HH11.out.lt
  have lt11 := HT11.out.lt
  clear hB11
  go_wp2_with fail
  with_reducible refine (HKA.out.of w11 HB11.out).mono ?_
  rintro e w12 ⟨oa, oc, rfl, hB12⟩
  have HB12 := Lib.hid (HB11.out.trans (hB12.mono HB11.out.size))
  have HG12 := Lib.hid (HG11.out.below hB12 HG11.out.lt)
  have HH12 := Lib.hid (HH11.out.below hB12 HH11.out.lt)
  have HT12 := Lib.hid (HT11.out.below hB12 HT11.out.lt)
  have HI12 := Lib.hid (TreeIn.below hB12 _ HI11.out)
  obtain ⟨c0, c1, c2, c3, c4⟩ := cells5 HG12.out
  obtain ⟨d0, d1, d2, d3, d4⟩ := cells5 HH12.out
  obtain ⟨t0, t1, t2⟩ := cells3 HT12.out
  have lg12 := HG12.out.lt
  have lh12 := HH12.out.lt
  have lt12 := HT12.out.lt
  clear hB12
  go_wp2_with fail
  with_reducible refine (HKA.out.ck w12 HB12.out).mono ?_
  rintro e w13 ⟨rfl, hB13⟩
  have HB13 := Lib.hid (HB12.out.trans (hB13.mono HB12.out.size))
  have HG13 := Lib.hid (HG12.out.below hB13 HG12.out.lt)
  have HH13 := Lib.hid (HH12.out.below hB13 HH12.out.lt)
  have HT13 := Lib.hid (HT12.out.below hB13 HT12.out.lt)
  have HI13 := Lib.hid (TreeIn.below hB13 _ HI12.out)
  obtain ⟨c0, c1, c2, c3, c4⟩ := cells5 HG13.out
  obtain ⟨d0, d1, d2, d3, d4⟩ := cells5 HH13.out
  obtain ⟨t0, t1, t2⟩ := cells3 HT13.out
  have lg13 := HG13.out.lt
  have lh13 := HH13.out.lt
  have lt13 := HT13.out.lt
  clear hB13
  have HCT := Lib.hid (HKA.out.ct w13 _ _ HB13.out HI13.out)
  simp only [TK, treeV, treeC, List.length_cons, List.length_nil, Nat.zero_add] at HCT
  go_wp2_with fail
  with_reducible refine HCT.out.mono ?_
  rintro e w14 ⟨rfl, hB14⟩
  have HB14 := Lib.hid (HB13.out.trans (hB14.mono HB13.out.size))
  clear hB14
  go_wp2_with fail
  with_reducible refine (zero_check _).mono ?_
  rintro e w15 ⟨rfl, hB15⟩
  have HB15 := Lib.hid (HB14.out.trans (hB15.mono HB14.out.size))
  clear hB15
  go_wp2
  go_ret
  exact ⟨rfl, HB6.out.trans (HB15.out.mono HB6.out.size)⟩
end Go.Proofs.Ytiihdbchchnncaa
