import Derived.Test.YtiihdbchchnncaaD1
namespace Go.Proofs.Ytiihdbchchnncaa
open Go Go.RowKit

structure GDIn (w : World) (sa pa r0 r1 : Nat) : Prop where
  s : Blk w sa 9 #[.string ⟨#[83]⟩]
  p : Blk w pa 46 #[.int .i64 0, .slice (some ⟨r0, 0, none⟩) 1 1, .string ⟨#[]⟩, .int .i64 0, .bool false, .bool false, .int .i64 (-1), .int .i64 0, .slice (some ⟨r1, 0, none⟩) 1 1, .string ⟨#[]⟩, .int .i64 0, .bool false, .bool false, .int .i64 (-1)]
  a0 : Blk w r0 68 (symC ⟨1, 0, 0⟩)
  a1 : Blk w r1 68 (symC ⟨0, la, 0⟩)
theorem GDIn.inn {w : World} {sa pa r0 r1 : Nat} (h : GDIn w sa pa r0 r1) : GIn w (GD (some ⟨sa, 0, none⟩) (some ⟨pa, 0, none⟩) (some ⟨r0, 0, none⟩) (some ⟨r1, 0, none⟩)) := by
  refine ⟨row_blk (cs := strC) (k := 1) (fun _ => rfl) h.s (by simp [cellsL, strC, GD]) (fun _ _ => trivial), row_blk (cs := prodC) (k := 7) (fun _ => rfl) h.p (by simp [cellsL, prodC, GD]) (fun x hx => ?_), RowOf.nil _, RowOf.nil _⟩
  simp only [GD, List.mem_cons, List.not_mem_nil, or_false] at hx
  rcases hx with rfl | rfl
  · exact row_blk (cs := symC) (k := 6) (fun _ => rfl) h.a0 (by simp [cellsL]) (fun _ _ => trivial)
  · exact row_blk (cs := symC) (k := 6) (fun _ => rfl) h.a1 (by simp [cellsL]) (fun _ _ => trivial)
theorem GDIn.below {w W : World} {sa pa r0 r1 : Nat} (h : GDIn w sa pa r0 r1) (hB : Below w.heap.size w W) : GDIn W sa pa r0 r1 :=
  ⟨h.s.below hB h.s.lt, h.p.below hB h.p.lt, h.a0.below hB h.a0.lt, h.a1.below hB h.a1.lt⟩
theorem symC_z : symC ⟨1, 0, 0⟩ = #[.int .i64 1, .int .u64 0, .int .u64 0, .int .u64 0, .int .u64 0, .int .i64 0] := by
  unfold symC
  rw [show wdI (0 : BS) 0 = 0 by decide +kernel, show wdI (0 : BS) 1 = 0 by decide +kernel, show wdI (0 : BS) 2 = 0 by decide +kernel, show wdI (0 : BS) 3 = 0 by decide +kernel]

set_option maxRecDepth 100000 in
set_option maxHeartbeats 4000000 in
theorem lawDeep_known (n : Int) (hn : n < 1 ∨ 40000 < n) (w : World) : Calls Try.prog 7 #[.int .i64 n] w fun e w' => e = .returned (.bool true) ∧ Below w.heap.size w w' := by
  have HKn := Lib.hid (known_any w)
  by_cases h1 : n < 1
  · go_enter Try.func7, Try.ntmps7
    go_wp2_with fail
    with_reducible refine HKn.out.mono ?_
    rintro e w1 ⟨rfl, hB1⟩
    go_wp2
    go_ret
    exact ⟨rfl, hB1⟩
  · have h2 : 40000 < n := by omega
    go_enter Try.func7, Try.ntmps7
    go_wp2_with fail
    with_reducible refine HKn.out.mono ?_
    rintro e w1 ⟨rfl, hB1⟩
    go_wp2
    go_ret
    exact ⟨rfl, hB1⟩

/-- A tree whose rows lie from a block on. -/
def TreeFar (N : Nat) (w : World) (t : TreeM) : Prop := ∀ W : World, w.heap.size ≤ W.heap.size → (∀ k, N ≤ k → k < w.heap.size → W.heap[k]? = w.heap[k]?) → TreeIn W t
def put3 (W : World) (B : Nat) (u0 u1 u2 : Value) : World := ((W.setCell ⟨B, 0, none⟩ u0).setCell ⟨B, 1, none⟩ u1).setCell ⟨B, 2, none⟩ u2
theorem Blk.put3 {W : World} {B : Nat} {v0 v1 v2 : Value} (h : Blk W B 51 #[v0, v1, v2]) (u0 u1 u2 : Value) : Blk (put3 W B u0 u1 u2) B 51 #[u0, u1, u2] := by
  have := ((h.set 0 u0).set 1 u1).set 2 u2
  simpa [Ytiihdbchchnncaa.put3] using this
theorem Blk.by3 {W : World} {B Q t : Nat} {c : Array Value} (h : Blk W B t c) (hne : B ≠ Q) (u0 u1 u2 : Value) : Blk (Ytiihdbchchnncaa.put3 W Q u0 u1 u2) B t c :=
  ((h.other (a := ⟨Q, 0, none⟩) hne u0).other (a := ⟨Q, 1, none⟩) hne u1).other (a := ⟨Q, 2, none⟩) hne u2
theorem below_put3 {N : Nat} {w W : World} (h : Below N w W) {B : Nat} (hB : N ≤ B) (u0 u1 u2 : Value) : Below N w (put3 W B u0 u1 u2) :=
  ((h.setCell (p := ⟨B, 0, none⟩) hB u0).setCell (p := ⟨B, 1, none⟩) hB u1).setCell (p := ⟨B, 2, none⟩) hB u2
theorem put3_block {W : World} {B k : Nat} (u0 u1 u2 : Value) (h : k ≠ B) : (put3 W B u0 u1 u2).heap[k]? = W.heap[k]? := by
  unfold put3
  rw [Below.heap_setCell _ ⟨B, 2, none⟩ _ k h, Below.heap_setCell _ ⟨B, 1, none⟩ _ k h, Below.heap_setCell _ ⟨B, 0, none⟩ _ k h]
theorem put3_size {W : World} {B : Nat} (u0 u1 u2 : Value) : (put3 W B u0 u1 u2).heap.size = W.heap.size := by
  unfold put3
  rw [World.size_setCell, World.size_setCell, World.size_setCell]
theorem TreeFar.inn {N : Nat} {w : World} {t : TreeM} (h : TreeFar N w t) : TreeIn w t := h w (Nat.le_refl _) (fun _ _ _ => rfl)

/-- How things stand at the loop's head. -/
def DLoop (m : Nat) (w w1 : World) (i : Nat) (W : World) : Prop := ∃ (k : Nat) (T : TreeM), DTree k T ∧ (i < m → k = i) ∧ (¬ i < m → k = m) ∧ Blk W (w1.heap.size + 1 + 1 + 1) 51 (treeC T) ∧ TreeFar (w1.heap.size + 1 + 1 + 1 + 1) W T
  ∧ GDIn W w.heap.size (w1.heap.size + 1) (w.heap.size + 1) w1.heap.size ∧ Blk W (w1.heap.size + 1 + 1) 27 #[.slice (some ⟨w.heap.size, 0, none⟩) 1 1, .slice (some ⟨w1.heap.size + 1, 0, none⟩) 2 2, .int .i64 0, .slice none 0 0, .slice none 0 0] ∧ Below w.heap.size w W
theorem DLoop.up {m : Nat} {w w1 W : World} {i : Nat} (hi : 2 ≤ i) (him : i < m) (hw : w.heap.size + 1 < w1.heap.size) {k : Nat} {T : TreeM} (hD : DTree k T) (hk : k = i) (hT : Blk W (w1.heap.size + 1 + 1 + 1) 51 (treeC T)) (hF : TreeFar (w1.heap.size + 1 + 1 + 1 + 1) W T)
    (hG : GDIn W w.heap.size (w1.heap.size + 1) (w.heap.size + 1) w1.heap.size) (hb : Blk W (w1.heap.size + 1 + 1) 27 #[.slice (some ⟨w.heap.size, 0, none⟩) 1 1, .slice (some ⟨w1.heap.size + 1, 0, none⟩) 2 2, .int .i64 0, .slice none 0 0, .slice none 0 0]) (hB : Below w.heap.size w W) :
    DLoop m w w1 (i + 1) ((put3 W (w1.heap.size + 1 + 1 + 1) (.int .i64 0) (.int .u8 0) (.slice (some ⟨W.heap.size, 0, none⟩) 1 1)).alloc (.cells (treeC T) 51)) := by
  have hlt := hT.lt
  obtain ⟨n, rfl⟩ : ∃ n, k = n + 2 := ⟨k - 2, by omega⟩
  have hnew := Blk.new (put3 W (w1.heap.size + 1 + 1 + 1) (.int .i64 0) (.int .u8 0) (.slice (some ⟨W.heap.size, 0, none⟩) 1 1)) 51 (treeC T)
  rw [put3_size] at hnew
  refine ⟨n + 3, .node 0 0 (some ⟨W.heap.size, 0, none⟩) 1 [T], .up _ hD, fun _ => by omega, fun _ => by omega, ?_, ?_, ?_, (hb.by3 (by omega) _ _ _).alloc _, ?_⟩
  · obtain ⟨p, b, ka, kc, kids⟩ := T
    unfold treeC at hT
    exact (hT.put3 _ _ _).alloc _
  · intro V hs hV
    have hsz : W.heap.size < V.heap.size := by
      have := hnew.lt
      omega
    rw [tree_in]
    have hrow : Blk V W.heap.size 51 (treeC T) := (hV W.heap.size (by omega) hnew.lt).trans hnew
    refine row_blk (cs := treeC) (k := 3) (fun x => by cases x; rfl) hrow (by simp [cellsL]) (fun x hx => ?_)
    simp at hx
    subst hx
    refine hF V (by omega) (fun q h1 h2 => ?_)
    rw [hV q h1 (by rw [World.size_alloc, put3_size]; omega)]
    have h3 : ((put3 W (w1.heap.size + 1 + 1 + 1) (.int .i64 0) (.int .u8 0) (.slice (some ⟨W.heap.size, 0, none⟩) 1 1)).alloc (.cells (treeC x) 51)).heap[q]? = (put3 W (w1.heap.size + 1 + 1 + 1) (.int .i64 0) (.int .u8 0) (.slice (some ⟨W.heap.size, 0, none⟩) 1 1)).heap[q]? :=
      (((Below.refl (put3 W (w1.heap.size + 1 + 1 + 1) (.int .i64 0) (.int .u8 0) (.slice (some ⟨W.heap.size, 0, none⟩) 1 1)).heap.size _).alloc (Nat.le_refl _) _).block q (by rw [put3_size]; exact h2))
    rw [h3, put3_block _ _ _ (by omega)]
  · exact ⟨(hG.s.by3 (by omega) _ _ _).alloc _, (hG.p.by3 (by omega) _ _ _).alloc _, (hG.a0.by3 (by omega) _ _ _).alloc _, (hG.a1.by3 (by omega) _ _ _).alloc _⟩
  · have hle := hB.size
    exact (below_put3 hB (by omega) _ _ _).alloc (by rw [put3_size]; exact hle) _

set_option maxRecDepth 100000 in
set_option maxHeartbeats 4000000 in
theorem lawDeep_any (m : Nat) (h1 : 1 ≤ m) (h2 : m ≤ 40000) (w : World) : Calls Try.prog 7 #[.int .i64 m] w fun e w' => e = .returned (.bool true) ∧ Below w.heap.size w w' := by
  have HLa := Lib.hid letter_a
  obtain ⟨ba, hba⟩ : ∃ z : BS, z = la := ⟨_, rfl⟩
  rw [← hba] at HLa
  have HA := Lib.hid hba
  clear hba
  unfold vset at HLa
  have n1 : ¬ (m : Int) < 1 := by omega
  have n2 : ¬ 40000 < (m : Int) := by omega
  go_enter Try.func7, Try.ntmps7
  go_wp2_with fail
  with_reducible refine (HLa.out _).mono ?_
  rintro e w1 ⟨rfl, hB1⟩
  have hk0 := Blk.new w 9 #[.string ⟨#[83]⟩]
  have hr0 := Blk.new (w.alloc (.cells #[.string ⟨#[83]⟩] 9)) 68 #[.int .i64 1, .int .u64 0, .int .u64 0, .int .u64 0, .int .u64 0, .int .i64 0]
  rw [World.size_alloc] at hr0
  have hA0 : Below w.heap.size w ((w.alloc (.cells #[.string ⟨#[83]⟩] 9)).alloc (.cells #[.int .i64 1, .int .u64 0, .int .u64 0, .int .u64 0, .int .u64 0, .int .i64 0] 68)) := ((Below.refl _ _).alloc (Nat.le_refl _) _).alloc (by simp) _
  have Hk := Lib.hid ((hk0.alloc (.cells #[.int .i64 1, .int .u64 0, .int .u64 0, .int .u64 0, .int .u64 0, .int .i64 0] 68)).below hB1 (hk0.alloc (.cells #[.int .i64 1, .int .u64 0, .int .u64 0, .int .u64 0, .int .u64 0, .int .i64 0] 68)).lt)
  have Hr := Lib.hid (hr0.below hB1 hr0.lt)
  have HB1 := Lib.hid (hA0.trans (hB1.mono hA0.size))
  have Hw : Hid (w.heap.size + 1 < w1.heap.size) := Lib.hid (by have := hB1.size; simp at this; omega)
  clear hk0 hr0 hA0 hB1 HLa
  by_cases hm : m = 1
  case' pos =>
    have n3 : ¬ 1 < (m : Int) := by omega
    have Hm := Lib.hid hm
    clear hm
    go_wp2_with fail

    obtain ⟨WL, hWL⟩ : ∃ W, W = ((((w1.alloc (.cells #[.int .i64 0, .int .u64 (wdI ba 0), .int .u64 (wdI ba 1), .int .u64 (wdI ba 2), .int .u64 (wdI ba 3), .int .i64 0] 68)).alloc (.cells #[.int .i64 0, .slice (some ⟨w.heap.size + 1, 0, none⟩) 1 1, .string ⟨#[]⟩, .int .i64 0, .bool false, .bool false, .int .i64 (-1), .int .i64 0, .slice (some ⟨w1.heap.size, 0, none⟩) 1 1, .string ⟨#[]⟩, .int .i64 0, .bool false, .bool false, .int .i64 (-1)] 46)).alloc (.cells #[.slice (some ⟨w.heap.size, 0, none⟩) 1 1, .slice (some ⟨w1.heap.size + 1, 0, none⟩) 2 2, .int .i64 0, .slice none 0 0, .slice none 0 0] 27)).alloc (.cells #[.int .i64 (-1), .int .u8 97, .slice none 0 0] 51)) := ⟨_, rfl⟩
    have hAL : Below w1.heap.size w1 WL := by rw [hWL]; exact (((((Below.refl _ _).alloc (Nat.le_refl _) _).alloc (by simp) _).alloc (by simp; omega) _).alloc (by simp; omega) _)
    have b1 : Blk WL w1.heap.size 68 #[.int .i64 0, .int .u64 (wdI ba 0), .int .u64 (wdI ba 1), .int .u64 (wdI ba 2), .int .u64 (wdI ba 3), .int .i64 0] := by rw [hWL]; exact (((Blk.new w1 68 _).alloc _).alloc _).alloc _
    have b2 : Blk WL (w1.heap.size + 1) 46 #[.int .i64 0, .slice (some ⟨w.heap.size + 1, 0, none⟩) 1 1, .string ⟨#[]⟩, .int .i64 0, .bool false, .bool false, .int .i64 (-1), .int .i64 0, .slice (some ⟨w1.heap.size, 0, none⟩) 1 1, .string ⟨#[]⟩, .int .i64 0, .bool false, .bool false, .int .i64 (-1)] := by
      have h := Blk.new (w1.alloc (.cells #[.int .i64 0, .int .u64 (wdI ba 0), .int .u64 (wdI ba 1), .int .u64 (wdI ba 2), .int .u64 (wdI ba 3), .int .i64 0] 68)) 46 #[.int .i64 0, .slice (some ⟨w.heap.size + 1, 0, none⟩) 1 1, .string ⟨#[]⟩, .int .i64 0, .bool false, .bool false, .int .i64 (-1), .int .i64 0, .slice (some ⟨w1.heap.size, 0, none⟩) 1 1, .string ⟨#[]⟩, .int .i64 0, .bool false, .bool false, .int .i64 (-1)]
      rw [World.size_alloc] at h
      rw [hWL]; exact ((h).alloc _).alloc _
    have b3 : Blk WL (w1.heap.size + 1 + 1) 27 #[.slice (some ⟨w.heap.size, 0, none⟩) 1 1, .slice (some ⟨w1.heap.size + 1, 0, none⟩) 2 2, .int .i64 0, .slice none 0 0, .slice none 0 0] := by
      have h := Blk.new ((w1.alloc (.cells #[.int .i64 0, .int .u64 (wdI ba 0), .int .u64 (wdI ba 1), .int .u64 (wdI ba 2), .int .u64 (wdI ba 3), .int .i64 0] 68)).alloc (.cells #[.int .i64 0, .slice (some ⟨w.heap.size + 1, 0, none⟩) 1 1, .string ⟨#[]⟩, .int .i64 0, .bool false, .bool false, .int .i64 (-1), .int .i64 0, .slice (some ⟨w1.heap.size, 0, none⟩) 1 1, .string ⟨#[]⟩, .int .i64 0, .bool false, .bool false, .int .i64 (-1)] 46)) 27 #[.slice (some ⟨w.heap.size, 0, none⟩) 1 1, .slice (some ⟨w1.heap.size + 1, 0, none⟩) 2 2, .int .i64 0, .slice none 0 0, .slice none 0 0]
      rw [World.size_alloc, World.size_alloc] at h
      rw [hWL]; exact (h).alloc _
    have b4 : Blk WL (w1.heap.size + 1 + 1 + 1) 51 #[.int .i64 (-1), .int .u8 97, .slice none 0 0] := by
      have h := Blk.new (((w1.alloc (.cells #[.int .i64 0, .int .u64 (wdI ba 0), .int .u64 (wdI ba 1), .int .u64 (wdI ba 2), .int .u64 (wdI ba 3), .int .i64 0] 68)).alloc (.cells #[.int .i64 0, .slice (some ⟨w.heap.size + 1, 0, none⟩) 1 1, .string ⟨#[]⟩, .int .i64 0, .bool false, .bool false, .int .i64 (-1), .int .i64 0, .slice (some ⟨w1.heap.size, 0, none⟩) 1 1, .string ⟨#[]⟩, .int .i64 0, .bool false, .bool false, .int .i64 (-1)] 46)).alloc (.cells #[.slice (some ⟨w.heap.size, 0, none⟩) 1 1, .slice (some ⟨w1.heap.size + 1, 0, none⟩) 2 2, .int .i64 0, .slice none 0 0, .slice none 0 0] 27)) 51 #[.int .i64 (-1), .int .u8 97, .slice none 0 0]
      rw [World.size_alloc, World.size_alloc, World.size_alloc] at h
      rw [hWL]; exact h

    have HDL : Hid (DLoop m w w1 2 WL) := Lib.hid ⟨1, .node (-1) 97 none 0 [], .leaf, fun h => (by have := Hm.out; omega), fun _ => Hm.out.symm, b4, fun W _ _ => (tree_in ..).2 (RowOf.nil _),
      ⟨Hk.out.below hAL Hk.out.lt, b2, by have h := Hr.out.below hAL Hr.out.lt; rw [← symC_z] at h; exact h, by have h := b1; rw [HA.out] at h; exact h⟩, b3, HB1.out.trans (hAL.mono HB1.out.size)⟩
    rw [← hWL]
    clear hWL hAL b1 b2 b3 b4 n3
  case' neg =>
    have n3 : 1 < (m : Int) := by omega
    have Hm := Lib.hid hm
    clear hm
    go_wp2_with fail

    obtain ⟨WL, hWL⟩ : ∃ W, W = ((((w1.alloc (.cells #[.int .i64 0, .int .u64 (wdI ba 0), .int .u64 (wdI ba 1), .int .u64 (wdI ba 2), .int .u64 (wdI ba 3), .int .i64 0] 68)).alloc (.cells #[.int .i64 0, .slice (some ⟨w.heap.size + 1, 0, none⟩) 1 1, .string ⟨#[]⟩, .int .i64 0, .bool false, .bool false, .int .i64 (-1), .int .i64 0, .slice (some ⟨w1.heap.size, 0, none⟩) 1 1, .string ⟨#[]⟩, .int .i64 0, .bool false, .bool false, .int .i64 (-1)] 46)).alloc (.cells #[.slice (some ⟨w.heap.size, 0, none⟩) 1 1, .slice (some ⟨w1.heap.size + 1, 0, none⟩) 2 2, .int .i64 0, .slice none 0 0, .slice none 0 0] 27)).alloc (.cells #[.int .i64 1, .int .u8 0, .slice (some ⟨w1.heap.size + 1 + 1 + 1 + 1, 0, none⟩) 1 1] 51)).alloc (.cells #[.int .i64 (-1), .int .u8 97, .slice none 0 0] 51) := ⟨_, rfl⟩
    have hAL : Below w1.heap.size w1 WL := by rw [hWL]; exact ((((((Below.refl _ _).alloc (Nat.le_refl _) _).alloc (by simp) _).alloc (by simp; omega) _).alloc (by simp; omega) _).alloc (by simp; omega) _)
    have b1 : Blk WL w1.heap.size 68 #[.int .i64 0, .int .u64 (wdI ba 0), .int .u64 (wdI ba 1), .int .u64 (wdI ba 2), .int .u64 (wdI ba 3), .int .i64 0] := by rw [hWL]; exact ((((Blk.new w1 68 _).alloc _).alloc _).alloc _).alloc _
    have b2 : Blk WL (w1.heap.size + 1) 46 #[.int .i64 0, .slice (some ⟨w.heap.size + 1, 0, none⟩) 1 1, .string ⟨#[]⟩, .int .i64 0, .bool false, .bool false, .int .i64 (-1), .int .i64 0, .slice (some ⟨w1.heap.size, 0, none⟩) 1 1, .string ⟨#[]⟩, .int .i64 0, .bool false, .bool false, .int .i64 (-1)] := by
      have h := Blk.new (w1.alloc (.cells #[.int .i64 0, .int .u64 (wdI ba 0), .int .u64 (wdI ba 1), .int .u64 (wdI ba 2), .int .u64 (wdI ba 3), .int .i64 0] 68)) 46 #[.int .i64 0, .slice (some ⟨w.heap.size + 1, 0, none⟩) 1 1, .string ⟨#[]⟩, .int .i64 0, .bool false, .bool false, .int .i64 (-1), .int .i64 0, .slice (some ⟨w1.heap.size, 0, none⟩) 1 1, .string ⟨#[]⟩, .int .i64 0, .bool false, .bool false, .int .i64 (-1)]
      rw [World.size_alloc] at h
      rw [hWL]; exact (((h).alloc _).alloc _).alloc _
    have b3 : Blk WL (w1.heap.size + 1 + 1) 27 #[.slice (some ⟨w.heap.size, 0, none⟩) 1 1, .slice (some ⟨w1.heap.size + 1, 0, none⟩) 2 2, .int .i64 0, .slice none 0 0, .slice none 0 0] := by
      have h := Blk.new ((w1.alloc (.cells #[.int .i64 0, .int .u64 (wdI ba 0), .int .u64 (wdI ba 1), .int .u64 (wdI ba 2), .int .u64 (wdI ba 3), .int .i64 0] 68)).alloc (.cells #[.int .i64 0, .slice (some ⟨w.heap.size + 1, 0, none⟩) 1 1, .string ⟨#[]⟩, .int .i64 0, .bool false, .bool false, .int .i64 (-1), .int .i64 0, .slice (some ⟨w1.heap.size, 0, none⟩) 1 1, .string ⟨#[]⟩, .int .i64 0, .bool false, .bool false, .int .i64 (-1)] 46)) 27 #[.slice (some ⟨w.heap.size, 0, none⟩) 1 1, .slice (some ⟨w1.heap.size + 1, 0, none⟩) 2 2, .int .i64 0, .slice none 0 0, .slice none 0 0]
      rw [World.size_alloc, World.size_alloc] at h
      rw [hWL]; exact ((h).alloc _).alloc _
    have b4 : Blk WL (w1.heap.size + 1 + 1 + 1) 51 #[.int .i64 1, .int .u8 0, .slice (some ⟨w1.heap.size + 1 + 1 + 1 + 1, 0, none⟩) 1 1] := by
      have h := Blk.new (((w1.alloc (.cells #[.int .i64 0, .int .u64 (wdI ba 0), .int .u64 (wdI ba 1), .int .u64 (wdI ba 2), .int .u64 (wdI ba 3), .int .i64 0] 68)).alloc (.cells #[.int .i64 0, .slice (some ⟨w.heap.size + 1, 0, none⟩) 1 1, .string ⟨#[]⟩, .int .i64 0, .bool false, .bool false, .int .i64 (-1), .int .i64 0, .slice (some ⟨w1.heap.size, 0, none⟩) 1 1, .string ⟨#[]⟩, .int .i64 0, .bool false, .bool false, .int .i64 (-1)] 46)).alloc (.cells #[.slice (some ⟨w.heap.size, 0, none⟩) 1 1, .slice (some ⟨w1.heap.size + 1, 0, none⟩) 2 2, .int .i64 0, .slice none 0 0, .slice none 0 0] 27)) 51 #[.int .i64 1, .int .u8 0, .slice (some ⟨w1.heap.size + 1 + 1 + 1 + 1, 0, none⟩) 1 1]
      rw [World.size_alloc, World.size_alloc, World.size_alloc] at h
      rw [hWL]; exact (h).alloc _

    have b5 : Blk WL (w1.heap.size + 1 + 1 + 1 + 1) 51 #[.int .i64 (-1), .int .u8 97, .slice none 0 0] := by
      have h := Blk.new ((((w1.alloc (.cells #[.int .i64 0, .int .u64 (wdI ba 0), .int .u64 (wdI ba 1), .int .u64 (wdI ba 2), .int .u64 (wdI ba 3), .int .i64 0] 68)).alloc (.cells #[.int .i64 0, .slice (some ⟨w.heap.size + 1, 0, none⟩) 1 1, .string ⟨#[]⟩, .int .i64 0, .bool false, .bool false, .int .i64 (-1), .int .i64 0, .slice (some ⟨w1.heap.size, 0, none⟩) 1 1, .string ⟨#[]⟩, .int .i64 0, .bool false, .bool false, .int .i64 (-1)] 46)).alloc (.cells #[.slice (some ⟨w.heap.size, 0, none⟩) 1 1, .slice (some ⟨w1.heap.size + 1, 0, none⟩) 2 2, .int .i64 0, .slice none 0 0, .slice none 0 0] 27)).alloc (.cells #[.int .i64 1, .int .u8 0, .slice (some ⟨w1.heap.size + 1 + 1 + 1 + 1, 0, none⟩) 1 1] 51)) 51 #[.int .i64 (-1), .int .u8 97, .slice none 0 0]
      rw [World.size_alloc, World.size_alloc, World.size_alloc, World.size_alloc] at h
      rw [hWL]; exact h
    have HDL : Hid (DLoop m w w1 2 WL) := Lib.hid ⟨2, .node 1 0 (some ⟨w1.heap.size + 1 + 1 + 1 + 1, 0, none⟩) 1 [.node (-1) 97 none 0 []], .one _, fun _ => rfl, fun h => (by have := Hm.out; omega), b4, fun W _ hW => (tree_in ..).2 (row_blk (cs := treeC) (k := 3) (fun x => by cases x; rfl) (show Blk W _ 51 #[.int .i64 (-1), .int .u8 97, .slice none 0 0] from (hW _ (Nat.le_refl _) b5.lt).trans b5) (by simp [cellsL, treeC]) (fun x hx => by
        simp at hx; rw [hx]; exact (tree_in ..).2 (RowOf.nil _))),
      ⟨Hk.out.below hAL Hk.out.lt, b2, by have h := Hr.out.below hAL Hr.out.lt; rw [← symC_z] at h; exact h, by have h := b1; rw [HA.out] at h; exact h⟩, b3, HB1.out.trans (hAL.mono HB1.out.size)⟩
    rw [← hWL]
    clear hWL hAL b1 b2 b3 b4 b5 n3
  all_goals
    clear Hk Hr HB1 HA Hm
    go_loopw [5] (fun i wr => ∃ q : Nat, i = .int .i64 q ∧ 2 ≤ q ∧ Hid (DLoop m w w1 q wr)) (fun i _ => m - (intOf i).toNat)
    case atStart => exact ⟨2, rfl, Nat.le_refl _, HDL⟩
    case round =>
      clear HDL
      obtain ⟨q, rfl, hq, hD⟩ := hrel
      obtain ⟨k, T, hDT, hk1, hk2, hT, hF, hG, hb, hB⟩ := hD.out
      by_cases hlt : q < m
      · first
        | (exfalso; omega)
        | skip
          have HU := Lib.hid (DLoop.up hq hlt Hw.out hDT (hk1 hlt) hT hF hG hb hB)
          obtain ⟨p, tb, ka, kc, kids⟩ := T
          unfold treeC at hT HU
          unfold put3 at HU
          obtain ⟨t0, t1, t2⟩ := cells3 hT
          have f0 := hT.frozen 0
          have f1 := hT.frozen 1
          have f2 := hT.frozen 2
          have lt0 := hT.lt
          have n4 : (q : Int) < (m : Int) := by omega
          clear hD hDT hk1 hk2 hT hF hG hb hB
          go_wp2
          go_roundw
          case rel => exact ⟨q + 1, by go_num, by omega, HU⟩
          case measure => simp [intOf]; omega
      · have n4 : ¬ (q : Int) < (m : Int) := by omega
        have hkm := hk2 hlt
        subst hkm
        have HY := Lib.hid (deep_yield hDT wr hF.inn)
        have HC := Lib.hid (fun W (hW : Below wr.heap.size wr W) => checkTree_any (GD (some ⟨w.heap.size, 0, none⟩) (some ⟨w1.heap.size + 1, 0, none⟩) (some ⟨w.heap.size + 1, 0, none⟩) (some ⟨w1.heap.size, 0, none⟩)) T W (hG.below hW).inn (GD_fit _ _ _ _) (TreeIn.below hW T hF.inn) (hDT.fit 16384))
        have HKn := Lib.hid known_any
        rw [hDT.ct] at HC
        have Hb := Lib.hid hb
        have HT := Lib.hid hT
        obtain ⟨p, tb, ka, kc, kids⟩ := T
        unfold treeV at HY HC
        unfold treeC at HY HC HT
        unfold gramV gramC GD at HC
        simp only [List.length_cons, List.length_nil, Nat.zero_add, Nat.reduceAdd] at HC
        obtain ⟨c0, c1, c2, c3, c4⟩ := cells5 hb
        obtain ⟨t0, t1, t2⟩ := cells3 HT.out
        have lg := hb.lt
        have lt0 := HT.out.lt
        clear hD hDT hk1 hk2 hT hF hG hb hlt
        by_cases hbig : 16384 < k
        · first
          | (exfalso; omega)
          | skip
            rw [if_neg (by omega)] at HY
            rw [if_pos hbig] at HC
            have n5 : (16384 : Int) < (k : Int) := by omega
            go_wp2_with fail
            with_reducible refine HY.out.mono ?_
            rintro e w2 ⟨rfl, hB2⟩
            have HC2 := Lib.hid (HC.out w2 hB2)
            have HB2 := Lib.hid (hB.trans (hB2.mono hB.size))
            have hg2 := Hb.out.below hB2 Hb.out.lt
            have ht2 := HT.out.below hB2 HT.out.lt
            obtain ⟨c0, c1, c2, c3, c4⟩ := cells5 hg2
            obtain ⟨t0, t1, t2⟩ := cells3 ht2
            have lg2 := hg2.lt
            have lt2 := ht2.lt
            clear hB2 hg2 ht2
            go_wp2_with fail
            with_reducible refine HC2.out.mono ?_
            rintro e w3 ⟨rfl, hB3⟩
            have HB3 := Lib.hid (HB2.out.trans (hB3.mono HB2.out.size))
            clear hB3
            go_wp2_with fail
            with_reducible refine (HKn.out _).mono ?_
            rintro e w4 ⟨rfl, hB4⟩
            have HB4 := Lib.hid (HB3.out.trans (hB4.mono HB3.out.size))
            clear hB4
            go_wp2
            go_ret
            exact ⟨rfl, HB4.out⟩
        · rw [if_pos (by omega)] at HY
          rw [if_neg hbig] at HC
          have n5 : ¬ (16384 : Int) < (k : Int) := by omega
          by_cases h3 : k < 2
          · first
            | (exfalso; omega)
            | skip
              rw [if_pos h3] at HC
              have n6 : ¬ 1 < (k : Int) := by omega
              go_wp2_with fail
              with_reducible refine HY.out.mono ?_
              rintro e w2 ⟨rfl, hB2⟩
              have HC2 := Lib.hid (HC.out w2 hB2)
              have HB2 := Lib.hid (hB.trans (hB2.mono hB.size))
              have hg2 := Hb.out.below hB2 Hb.out.lt
              have ht2 := HT.out.below hB2 HT.out.lt
              obtain ⟨c0, c1, c2, c3, c4⟩ := cells5 hg2
              obtain ⟨t0, t1, t2⟩ := cells3 ht2
              have lg2 := hg2.lt
              have lt2 := ht2.lt
              clear hB2 hg2 ht2
              go_wp2_with fail
              with_reducible refine HC2.out.mono ?_
              rintro e w3 ⟨rfl, hB3⟩
              have HB3 := Lib.hid (HB2.out.trans (hB3.mono HB2.out.size))
              clear hB3
              go_wp2_with fail
              with_reducible refine (HKn.out _).mono ?_
              rintro e w4 ⟨rfl, hB4⟩
              have HB4 := Lib.hid (HB3.out.trans (hB4.mono HB3.out.size))
              clear hB4
              go_wp2
              go_ret
              exact ⟨by simp [n6], HB4.out⟩
          · first
            | (exfalso; omega)
            | skip
              rw [if_neg h3] at HC
              have n6 : 1 < (k : Int) := by omega
              go_wp2_with fail
              with_reducible refine HY.out.mono ?_
              rintro e w2 ⟨rfl, hB2⟩
              have HC2 := Lib.hid (HC.out w2 hB2)
              have HB2 := Lib.hid (hB.trans (hB2.mono hB.size))
              have hg2 := Hb.out.below hB2 Hb.out.lt
              have ht2 := HT.out.below hB2 HT.out.lt
              obtain ⟨c0, c1, c2, c3, c4⟩ := cells5 hg2
              obtain ⟨t0, t1, t2⟩ := cells3 ht2
              have lg2 := hg2.lt
              have lt2 := ht2.lt
              clear hB2 hg2 ht2
              go_wp2_with fail
              with_reducible refine HC2.out.mono ?_
              rintro e w3 ⟨rfl, hB3⟩
              have HB3 := Lib.hid (HB2.out.trans (hB3.mono HB2.out.size))
              clear hB3
              go_wp2_with fail
              with_reducible refine (HKn.out _).mono ?_
              rintro e w4 ⟨rfl, hB4⟩
              have HB4 := Lib.hid (HB3.out.trans (hB4.mono HB3.out.size))
              clear hB4
              go_wp2
              go_ret
              exact ⟨rfl, HB4.out⟩
end Go.Proofs.Ytiihdbchchnncaa
