import Derived.Deep.CutRange
import Derived.Deep.LoopGhost
import Derived.Test.YtodnlcbnbkkanaaGreatDoorM4
import Derived.Test.YtodnlcbnbkkanaaGreatDoorM11
section
namespace Go.Proofs.YtodnlcbnbkkanaaGreatDoor
open Go Go.RowKit

theorem rowI_cell {W : World} {B : Nat} {S : List Int} (h : RowInt W (some ⟨B, 0, none⟩) S) {k : Nat} {v : Int} (hk : S[k]? = some v) : W.cell? ⟨B, k, none⟩ = some (.int .i64 v) ∧ B < W.heap.size := by
  obtain ⟨b, o, e, hb, hc, _⟩ := h k v hk
  simp only [Option.some.injEq, Addr.mk.injEq] at e
  obtain ⟨rfl, rfl, _⟩ := e
  have := Int_at hc
  rw [Nat.mul_one, Nat.zero_add] at this
  exact ⟨this, hb⟩
/-- What facts answers of the chapter's grammar. -/
structure KnownA (G : Value) (w : World) : Prop where
  sh : ∀ W, Below w.heap.size w W → Calls Tryz.prog 28 #[G] W fun e w' => ∃ B c, e = .returned (.tuple #[.slice (some ⟨B, 0, none⟩) 3 c, .int .i64 0]) ∧ W.heap.size ≤ B ∧ (w'.cell? ⟨B, 0, none⟩ = some (.int .i64 1) ∧ w'.cell? ⟨B, 1, none⟩ = some (.int .i64 0) ∧ w'.cell? ⟨B, 2, none⟩ = some (.int .i64 (-1))) ∧ B < w'.heap.size ∧ Below W.heap.size W w'
  ci : ∀ W, Below w.heap.size w W → Calls Tryz.prog 16 #[G] W fun e w' => ∃ B, e = .returned (.tuple #[.slice (some ⟨B, 0, none⟩) 3 3, .int .i64 0]) ∧ W.heap.size ≤ B ∧ Blk w' B 4 #[.bool true, .bool false, .bool false] ∧ Below W.heap.size W w'
  nu : ∀ W, Below w.heap.size w W → Calls Tryz.prog 15 #[G] W fun e w' => ∃ B, e = .returned (.tuple #[.slice (some ⟨B, 0, none⟩) 3 3, .int .i64 0]) ∧ W.heap.size ≤ B ∧ Blk w' B 4 #[.bool false, .bool true, .bool false] ∧ Below W.heap.size W w'
  s0 : ∀ W, Below w.heap.size w W → Calls Tryz.prog 29 #[G, .int .i64 0] W fun e w' => e = .returned (.tuple #[.string ⟨#[120]⟩, .int .i64 0]) ∧ Below W.heap.size W w'
  s2 : ∀ W, Below w.heap.size w W → Calls Tryz.prog 29 #[G, .int .i64 2] W fun e w' => e = .returned (.tuple #[.string ⟨#[]⟩, .int .i64 161]) ∧ Below W.heap.size W w'
theorem knownA {w : World} {sa pa r0 r1 r3 r4 : Nat} (h : GSIn w sa pa r0 r1 r3 r4) (hT : TabAt 1 Lib.deBruijn64tab w) : KnownA (gramV (GSa sa pa r0 r1 r3 r4)) w := by
  have hf := GS_fit sa pa r0 r1 r3 r4
  have hck := GS_check (some ⟨sa, 0, none⟩) (some ⟨pa, 0, none⟩) (some ⟨r0, 0, none⟩) (some ⟨r1, 0, none⟩) (some ⟨r3, 0, none⟩) (some ⟨r4, 0, none⟩)
  have hck' : checkB (GSa sa pa r0 r1 r3 r4) = true := hck
  have hTW : ∀ W, Below w.heap.size w W → TabAt 1 Lib.deBruijn64tab W := fun W hW => KpG.tab (KpG.below hW (lt_of_cell (hT 0 (by decide)))) hT
  have hS : ∀ (k : Int), k = 0 ∨ k = 2 → ∀ S, ShortP (GSa sa pa r0 r1 r3 r4) S → gi S k ≤ (4096 : Nat) ∨ gi S k = 1048577 := fun k hk S h => by
    rw [GS_isS _ _ _ _ _ _ h]
    rcases hk with rfl | rfl
    · exact .inl (by decide)
    · exact .inl (by decide)
  refine ⟨fun W hW => ?_, fun W hW => ?_, fun W hW => ?_, fun W hW => ?_, fun W hW => ?_⟩
  · refine (Shortest_any _ hf W (h.below hW).inn).mono ?_
    rintro e w' ⟨hB, ⟨hc, _⟩ | ⟨_, S, B, c, hSh, rfl, hBl, hR⟩⟩
    · rw [hck'] at hc; cases hc
    · have e1 := GS_isS _ _ _ _ _ _ hSh
      rw [e1] at hR ⊢
      exact ⟨B, c, rfl, hBl, ⟨(rowI_cell hR (k := 0) rfl).1, (rowI_cell hR (k := 1) rfl).1, (rowI_cell hR (k := 2) rfl).1⟩, (rowI_cell hR (k := 0) rfl).2, hB⟩
  · refine (Circular_any _ hf W (h.below hW).inn).mono ?_
    rintro e w' ⟨hB, ⟨hc, _⟩ | ⟨_, M, B, hM, rfl, hBl, hR⟩⟩
    · rw [hck'] at hc; cases hc
    · have e1 := GS_circ _ _ _ _ _ _ hM
      rw [e1] at hR ⊢
      exact ⟨B, rfl, hBl, hR, hB⟩
  · refine (Nullable_any _ hf W (h.below hW).inn).mono ?_
    rintro e w' ⟨hB, ⟨hc, _⟩ | ⟨_, M, B, hM, rfl, hBl, hR⟩⟩
    · rw [hck'] at hc; cases hc
    · have e1 := GS_isN _ _ _ _ _ _ hM
      rw [e1] at hR ⊢
      exact ⟨B, rfl, hBl, hR, hB⟩
  · refine (Sample_any whole4096 _ hf 0 (by decide) (by decide) (hS 0 (.inl rfl)) W (h.below hW).inn (hTW W hW)).mono ?_
    rintro e w' ⟨hB, ⟨hc, _⟩ | ⟨_, ⟨hn, _⟩ | ⟨_, S, hSh, hh⟩⟩⟩
    · rw [hck'] at hc; cases hc
    · exact absurd hn (by rw [show numB 0 (GSa sa pa r0 r1 r3 r4).sorts.length = true from rfl]; decide)
    · rw [GS_isS _ _ _ _ _ _ hSh] at hh
      rcases hh with ⟨h1, _⟩ | ⟨h1, _⟩ | ⟨_, _, t, ht, rfl⟩
      · exact absurd h1 (by decide)
      · exact absurd h1 (by decide)
      · rw [GS_lt _ _ _ _ _ _ ht]
        exact ⟨rfl, hB⟩
  · refine (Sample_any whole4096 _ hf 2 (by decide) (by decide) (hS 2 (.inr rfl)) W (h.below hW).inn (hTW W hW)).mono ?_
    rintro e w' ⟨hB, ⟨hc, _⟩ | ⟨_, ⟨hn, _⟩ | ⟨_, S, hSh, hh⟩⟩⟩
    · rw [hck'] at hc; cases hc
    · exact absurd hn (by rw [show numB 2 (GSa sa pa r0 r1 r3 r4).sorts.length = true from rfl]; decide)
    · rw [GS_isS _ _ _ _ _ _ hSh] at hh
      rcases hh with ⟨_, rfl⟩ | ⟨h1, _⟩ | ⟨h1, _⟩
      · exact ⟨rfl, hB⟩
      · exact absurd h1 (by decide)
      · exact absurd h1 (by decide)

set_option maxRecDepth 100000 in
set_option maxHeartbeats 8000000 in
/-- works: yes. -/
theorem works_any (w : World) (hT : TabAt 1 Lib.deBruijn64tab w) : Calls Tryz.prog 11 #[] w fun e w' => e = .returned (.bool true) ∧ Below w.heap.size w w' := by
  have HSm := Lib.hid (smp_any w)
  have HT := Lib.hid hT
  have HN := Lib.hid (fun n W => errno_any n W)
  clear hT
  go_enter Tryz.func11, Tryz.ntmps11
  go_wp2_with fail
  refine HSm.out.mono ?_
  rintro e w1 ⟨sa, pa, r0, r1, r3, r4, hIn, rfl, hB1⟩
  have HKA := Lib.hid (knownA hIn (KpG.tab (KpG.below hB1 (lt_of_cell (HT.out 0 (by decide)))) HT.out))
  have HB1 := Lib.hid hB1
  have HGE : Hid (gramV (GSa sa pa r0 r1 r3 r4) = .agg #[.slice (some ⟨sa, 0, none⟩) 3 3, .slice (some ⟨pa, 0, none⟩) 5 5, .int .i64 0, .slice none 0 0, .slice none 0 0]) := Lib.hid rfl
  rw [HGE.out] at HKA ⊢
  have hA : Below w1.heap.size w1 (w1.alloc (.cells #[.slice (some ⟨sa, 0, none⟩) 3 3, .slice (some ⟨pa, 0, none⟩) 5 5, .int .i64 0, .slice none 0 0, .slice none 0 0] 27)) := (Below.refl _ _).alloc (Nat.le_refl _) _
  have HG := Lib.hid (Blk.new w1 27 #[.slice (some ⟨sa, 0, none⟩) 3 3, .slice (some ⟨pa, 0, none⟩) 5 5, .int .i64 0, .slice none 0 0, .slice none 0 0])
  have HA := Lib.hid hA
  clear hB1 hIn hA HSm HGE
  go_wp2_with fail
  with_reducible refine (HKA.out.sh _ HA.out).mono ?_
  rintro e w2 ⟨B2, k2, rfl, hb2, hcs, hlt, hB⟩
  have HG2 := Lib.hid (HG.out.below hB HG.out.lt)
  have HA2 := Lib.hid (HA.out.trans (hB.mono HA.out.size))
  obtain ⟨c0, c1, c2, c3, c4⟩ := cells5s HG2.out
  have lg := HG2.out.lt
  have HS2 := Lib.hid (And.intro hcs hlt)
  clear hB HG HA hcs hlt hb2
  go_wp2_with fail
  with_reducible refine (HKA.out.ci _ HA2.out).mono ?_
  rintro e w3 ⟨B3, rfl, hb3, hk, hB⟩
  have HG3 := Lib.hid (HG2.out.below hB HG2.out.lt)
  have HA3 := Lib.hid (HA2.out.trans (hB.mono HA2.out.size))
  have HS3 : Hid ((w3.cell? ⟨B2, 0, none⟩ = some (.int .i64 1) ∧ w3.cell? ⟨B2, 1, none⟩ = some (.int .i64 0) ∧ w3.cell? ⟨B2, 2, none⟩ = some (.int .i64 (-1))) ∧ B2 < w3.heap.size) := Lib.hid ⟨⟨(hB.cell (p := ⟨B2, 0, none⟩) HS2.out.2).trans HS2.out.1.1, (hB.cell (p := ⟨B2, 1, none⟩) HS2.out.2).trans HS2.out.1.2.1, (hB.cell (p := ⟨B2, 2, none⟩) HS2.out.2).trans HS2.out.1.2.2⟩, Nat.lt_of_lt_of_le HS2.out.2 hB.size⟩
  have HC3 := Lib.hid hk
  obtain ⟨c0, c1, c2, c3, c4⟩ := cells5s HG3.out
  have lg := HG3.out.lt
  clear hB hk hb3 HG2 HA2 HS2
  go_wp2_with fail
  with_reducible refine (HKA.out.nu _ HA3.out).mono ?_
  rintro e w4 ⟨B4, rfl, hb4, hk, hB⟩
  have HG4 := Lib.hid (HG3.out.below hB HG3.out.lt)
  have HA4 := Lib.hid (HA3.out.trans (hB.mono HA3.out.size))
  have HS4 : Hid ((w4.cell? ⟨B2, 0, none⟩ = some (.int .i64 1) ∧ w4.cell? ⟨B2, 1, none⟩ = some (.int .i64 0) ∧ w4.cell? ⟨B2, 2, none⟩ = some (.int .i64 (-1))) ∧ B2 < w4.heap.size) := Lib.hid ⟨⟨(hB.cell (p := ⟨B2, 0, none⟩) HS3.out.2).trans HS3.out.1.1, (hB.cell (p := ⟨B2, 1, none⟩) HS3.out.2).trans HS3.out.1.2.1, (hB.cell (p := ⟨B2, 2, none⟩) HS3.out.2).trans HS3.out.1.2.2⟩, Nat.lt_of_lt_of_le HS3.out.2 hB.size⟩
  have HC4 := Lib.hid (HC3.out.below hB HC3.out.lt)
  have HN4 := Lib.hid hk
  obtain ⟨c0, c1, c2, c3, c4⟩ := cells5s HG4.out
  have lg := HG4.out.lt
  clear hB hk hb4 HG3 HA3 HS3 HC3
  go_wp2_with fail
  with_reducible refine (HKA.out.s0 _ HA4.out).mono ?_
  rintro e w5 ⟨rfl, hB⟩
  have HG5 := Lib.hid (HG4.out.below hB HG4.out.lt)
  have HA5 := Lib.hid (HA4.out.trans (hB.mono HA4.out.size))
  have HS5 : Hid ((w5.cell? ⟨B2, 0, none⟩ = some (.int .i64 1) ∧ w5.cell? ⟨B2, 1, none⟩ = some (.int .i64 0) ∧ w5.cell? ⟨B2, 2, none⟩ = some (.int .i64 (-1))) ∧ B2 < w5.heap.size) := Lib.hid ⟨⟨(hB.cell (p := ⟨B2, 0, none⟩) HS4.out.2).trans HS4.out.1.1, (hB.cell (p := ⟨B2, 1, none⟩) HS4.out.2).trans HS4.out.1.2.1, (hB.cell (p := ⟨B2, 2, none⟩) HS4.out.2).trans HS4.out.1.2.2⟩, Nat.lt_of_lt_of_le HS4.out.2 hB.size⟩
  have HC5 := Lib.hid (HC4.out.below hB HC4.out.lt)
  have HN5 := Lib.hid (HN4.out.below hB HN4.out.lt)
  obtain ⟨c0, c1, c2, c3, c4⟩ := cells5s HG5.out
  have lg := HG5.out.lt
  clear hB HG4 HA4 HS4 HC4 HN4
  go_wp2_with fail
  with_reducible refine (HKA.out.s2 _ HA5.out).mono ?_
  rintro e w6 ⟨rfl, hB⟩
  have HA6 := Lib.hid (HA5.out.trans (hB.mono HA5.out.size))
  obtain ⟨s0, s1, s2⟩ : w6.cell? ⟨B2, 0, none⟩ = some (.int .i64 1) ∧ w6.cell? ⟨B2, 1, none⟩ = some (.int .i64 0) ∧ w6.cell? ⟨B2, 2, none⟩ = some (.int .i64 (-1)) := ⟨(hB.cell (p := ⟨B2, 0, none⟩) HS5.out.2).trans HS5.out.1.1, (hB.cell (p := ⟨B2, 1, none⟩) HS5.out.2).trans HS5.out.1.2.1, (hB.cell (p := ⟨B2, 2, none⟩) HS5.out.2).trans HS5.out.1.2.2⟩
  have sl := Nat.lt_of_lt_of_le HS5.out.2 hB.size
  have hc6 := HC5.out.below hB HC5.out.lt
  have hn6 := HN5.out.below hB HN5.out.lt
  have i0 := hc6.cell 0
  have i1 := hc6.cell 1
  have i2 := hc6.cell 2
  have il := hc6.lt
  have n0 := hn6.cell 0
  have n1 := hn6.cell 1
  have n2 := hn6.cell 2
  have nl := hn6.lt
  simp only [List.getElem?_toArray, List.getElem?_cons_zero, List.getElem?_cons_succ] at i0 i1 i2 n0 n1 n2
  have HBe := Lib.hid (HB1.out.trans (HA6.out.mono HB1.out.size))
  clear hB hc6 hn6 HG5 HA5 HS5 HC5 HN5 HA6 HB1 c0 c1 c2 c3 c4 lg
  go_wp2_with (go_at_call 25; refine (HN.out _ _).mono ?_; rintro e wn ⟨rfl, rfl⟩)
  go_ret
  exact ⟨rfl, HBe.out⟩
end Go.Proofs.YtodnlcbnbkkanaaGreatDoor
end
section
namespace Go.Proofs.YtodnlcbnbkkanaaGreatDoor
open Go Go.RowKit

/-! The reference's Circular: a square of marks, closed by rounds. -/

/-- A square of marks, row behind row. -/
def matL (n : Nat) (m : Nat → Nat → Bool) : List Bool := (List.range (n * n)).map fun i => m (i / n) (i % n)
theorem matL_len (n : Nat) (m : Nat → Nat → Bool) : (matL n m).length = n * n := by unfold matL; simp
def upd (m : Nat → Nat → Bool) (a c : Nat) : Nat → Nat → Bool := fun x y => if x = a ∧ y = c then true else m x y
theorem mat_lt {n a c : Nat} (ha : a < n) (hc : c < n) : a * n + c < n * n := by
  have h1 : (a + 1) * n ≤ n * n := Nat.mul_le_mul_right n ha
  rw [Nat.succ_mul] at h1
  omega
theorem mat_div {n a c : Nat} (hc : c < n) : (a * n + c) / n = a ∧ (a * n + c) % n = c := by
  have hn : 0 < n := by omega
  constructor
  · rw [Nat.add_comm, Nat.add_mul_div_right _ _ hn, Nat.div_eq_of_lt hc, Nat.zero_add]
  · rw [Nat.add_comm, Nat.add_mul_mod_self_right, Nat.mod_eq_of_lt hc]
theorem matL_at {n : Nat} {m : Nat → Nat → Bool} {a c : Nat} (ha : a < n) (hc : c < n) : (bools (matL n m))[a * n + c]? = some (.bool (m a c)) := by
  have hl := mat_lt ha hc
  rw [bools_at _ _ (by rw [matL_len]; exact hl)]
  congr 2
  unfold lv matL
  rw [Int.toNat_natCast, List.getD_eq_getElem?_getD, List.getElem?_map, List.getElem?_range hl]
  simp [(mat_div (a := a) hc).1, (mat_div (a := a) hc).2]
theorem matL_get {n : Nat} {m : Nat → Nat → Bool} {i : Nat} (h : i < (matL n m).length) : (matL n m)[i] = m (i / n) (i % n) := by simp [matL]
theorem matL_set {n : Nat} {m : Nat → Nat → Bool} {a c : Nat} (_ha : a < n) (hc : c < n) : (matL n m).set (a * n + c) true = matL n (upd m a c) := by
  refine List.ext_getElem (by rw [List.length_set, matL_len, matL_len]) fun i h1 h2 => ?_
  rw [List.getElem_set, matL_get, matL_get]
  unfold upd
  by_cases e : a * n + c = i
  · subst e
    rw [if_pos rfl, if_pos (mat_div hc)]
  · rw [if_neg e, if_neg]
    rintro ⟨h3, h4⟩
    have := Nat.div_add_mod i n
    rw [h3, h4, Nat.mul_comm] at this
    exact e this
theorem matL_none (n : Nat) : matL n (fun _ _ => false) = List.replicate (n * n) false := by
  unfold matL
  rw [List.map_const', List.length_range]

/-- The edges that some productions, and of the next one some symbols, make. -/
def EdgeR (g : GramM) (S : List Int) (M : List Bool) (j i : Nat) (a b : Nat) : Prop := ∃ (j' i' : Nat) (x : ProdM) (s : SymM), g.prods[j']? = some x ∧ (j' < j ∨ (j' = j ∧ i' < i)) ∧ treeP x ∧ x.right[i']? = some s ∧ s.kind = 1 ∧ 0 ≤ gi S s.sort ∧ AloneP M x i' ∧ x.left = a ∧ s.sort = b
section
variable {g : GramM} {S : List Int} {M : List Bool} {j i : Nat} {x : ProdM} {s : SymM} {a b : Nat}
theorem EdgeR.zero : ¬ EdgeR g S M 0 0 a b := fun ⟨_, _, _, _, _, h, _⟩ => by omega
theorem EdgeR.next (hx : g.prods[j]? = some x) (hi : i = x.right.length) : EdgeR g S M j i a b ↔ EdgeR g S M (j + 1) 0 a b := by
  subst hi
  constructor
  · rintro ⟨j', i', y, t, h1, h2, h3⟩
    exact ⟨j', i', y, t, h1, by omega, h3⟩
  · rintro ⟨j', i', y, t, h1, h2, h3, h4, h5⟩
    refine ⟨j', i', y, t, h1, ?_, h3, h4, h5⟩
    by_cases e : j' = j
    · subst e
      rw [hx] at h1; cases h1
      exact .inr ⟨rfl, (List.getElem?_eq_some_iff.1 h4).1⟩
    · exact .inl (by omega)
theorem EdgeR.skip (hx : g.prods[j]? = some x) (hr : ¬ treeP x) : EdgeR g S M j 0 a b ↔ EdgeR g S M (j + 1) 0 a b := by
  constructor
  · rintro ⟨j', i', y, t, h1, h2, h3⟩
    exact ⟨j', i', y, t, h1, by omega, h3⟩
  · rintro ⟨j', i', y, t, h1, h2, h3, h4⟩
    refine ⟨j', i', y, t, h1, ?_, h3, h4⟩
    by_cases e : j' = j
    · subst e
      rw [hx] at h1; cases h1
      exact absurd h3 hr
    · exact .inl (by omega)
theorem EdgeR.no (hx : g.prods[j]? = some x) (hs : x.right[i]? = some s) (h : ¬ (s.kind = 1 ∧ 0 ≤ gi S s.sort ∧ AloneP M x i)) : EdgeR g S M j i a b ↔ EdgeR g S M j (i + 1) a b := by
  constructor
  · rintro ⟨j', i', y, t, h1, h2, h3⟩
    exact ⟨j', i', y, t, h1, by omega, h3⟩
  · rintro ⟨j', i', y, t, h1, h2, h3, h4, h5, h6, h7, h8⟩
    refine ⟨j', i', y, t, h1, ?_, h3, h4, h5, h6, h7, h8⟩
    by_cases e : j' = j ∧ i' = i
    · obtain ⟨rfl, rfl⟩ := e
      rw [hx] at h1; cases h1
      rw [hs] at h4; cases h4
      exact absurd ⟨h5, h6, h7⟩ h
    · omega
theorem EdgeR.yes (hx : g.prods[j]? = some x) (hr : treeP x) (hs : x.right[i]? = some s) (hk : s.kind = 1) (hg : 0 ≤ gi S s.sort) (ha : AloneP M x i) : (x.left = a ∧ s.sort = b) ∨ EdgeR g S M j i a b ↔ EdgeR g S M j (i + 1) a b := by
  constructor
  · rintro (⟨h1, h2⟩ | ⟨j', i', y, t, h1, h2, h3⟩)
    · exact ⟨j, i, x, s, hx, by omega, hr, hs, hk, hg, ha, h1, h2⟩
    · exact ⟨j', i', y, t, h1, by omega, h3⟩
  · rintro ⟨j', i', y, t, h1, h2, h3, h4, h5, h6, h7, h8⟩
    by_cases e : j' = j ∧ i' = i
    · obtain ⟨rfl, rfl⟩ := e
      rw [hx] at h1; cases h1
      rw [hs] at h4; cases h4
      exact .inl h8
    · exact .inr ⟨j', i', y, t, h1, by omega, h3, h4, h5, h6, h7, h8⟩
end
/-- The edges are those of the program. -/
theorem edge_lead {g : GramM} (hm : MayB g) (hs : MaySet g) {S : List Int} {M L : List Bool} (hS : ShortP g S) (hM : NullP g M) (hL : Live g L) (a b : Nat) : EdgeR g S M g.prods.length 0 a b ↔ LeadE g M L a b := by
  have hpos : ∀ k : Nat, k < g.sorts.length → (0 ≤ gi S k ↔ ∃ t, TX g k t) := fun k hk => by
    obtain ⟨v, hv⟩ : ∃ v, S[k]? = some v := ⟨_, List.getElem?_eq_getElem (by rw [hS.1]; exact hk)⟩
    rw [gi_some (i := (k : Int)) (by rw [Int.toNat_natCast]; exact hv)]
    rcases hS.2 k v hv with ⟨rfl, h⟩ | ⟨t, h1, h2, _⟩
    · exact ⟨fun h0 => by omega, fun ⟨t, ht⟩ => absurd ht (h t)⟩
    · exact ⟨fun _ => ⟨t, h1⟩, fun _ => by omega⟩
  have hlv : ∀ k : Nat, lv L k = true ↔ ∃ t, TX g k t := fun k => by
    rw [← pv_iff hs, ← hL.2 k]
    unfold lv
    rw [Int.toNat_natCast, List.getD_eq_getElem?_getD]
    cases L[k]? with
    | none => simp
    | some v => simp
  have hnv : ∀ k : Nat, lv M k = true ↔ TX g k [] := fun k => by
    rw [← hM.2 k]
    unfold lv
    rw [Int.toNat_natCast, List.getD_eq_getElem?_getD]
    cases M[k]? with
    | none => simp
    | some v => simp
  rw [leadE_iff]
  constructor
  · rintro ⟨j, i, x, s, hx, _, hr, h1, h2, h3, h4, h5, h6⟩
    have hxm := List.mem_of_getElem? hx
    refine ⟨x, livL_mem.2 ⟨hxm, hr, ?_⟩, i, s, h1, h2, h4, h5, h6⟩
    rw [List.any_eq_false]
    intro t ht
    obtain ⟨i', hi'⟩ := List.mem_iff_getElem?.1 ht
    unfold lacksQ
    by_cases hk : t.kind = 1
    · obtain ⟨k, e1, e2⟩ := hm.sym x hxm t ht hk
      have : lv L t.sort = true := by
        rw [e1]
        by_cases e : i' = i
        · subst e
          rw [hi'] at h1; cases h1
          rw [e1] at h3
          exact (hlv k).2 ((hpos k e2).1 h3)
        · have := h4 i' t hi' e
          unfold filledQ at this
          rw [e1] at this
          have hv : lv M (k : Int) = true := by
            cases c : lv M (k : Int) with
            | true => rfl
            | false => rw [c] at this; simp at this
          exact (hlv k).2 ⟨_, (hnv k).1 hv⟩
      rw [this]; simp
    · have : (t.kind == 1) = false := by simpa using hk
      rw [this]; simp
  · rintro ⟨x, hx, i, s, h1, h2, h3, h4, h5⟩
    obtain ⟨hxm, hr, hl⟩ := livL_mem.1 hx
    obtain ⟨j, hj⟩ := List.mem_iff_getElem?.1 hxm
    refine ⟨j, i, x, s, hj, .inl (List.getElem?_eq_some_iff.1 hj).1, hr, h1, h2, ?_, h3, h4, h5⟩
    have hsm := List.mem_of_getElem? h1
    obtain ⟨k, e1, e2⟩ := hm.sym x hxm s hsm h2
    rw [List.any_eq_false] at hl
    have := hl s hsm
    unfold lacksQ at this
    rw [h2, e1] at this
    rw [e1]
    refine (hpos k e2).2 ((hlv k).1 ?_)
    cases c : lv L (k : Int) with
    | true => rfl
    | false => rw [c] at this; simp at this

/-! Rounds over all marks. -/

/-- How many marks of a row are not set. -/
def cntF (n : Nat) (m : Nat → Nat → Bool) (a : Nat) : Nat := (List.range n).countP fun c => !m a c
theorem cntF_le (n : Nat) (m : Nat → Nat → Bool) (a : Nat) : cntF n m a ≤ n := by
  have := List.countP_le_length (p := fun c => !m a c) (l := List.range n)
  rw [List.length_range] at this
  exact this
theorem countP_lt {p q : Nat → Bool} {c : Nat} : ∀ {l : List Nat}, c ∈ l → p c = true → q c = false → (∀ x, q x = true → p x = true) → l.countP q < l.countP p := by
  intro l
  induction l with
  | nil => intro h; cases h
  | cons y r ih =>
    intro h hp hq hi
    rw [List.countP_cons, List.countP_cons]
    have hmono : r.countP q ≤ r.countP p := List.countP_mono_left fun x _ hx => hi x hx
    rcases List.mem_cons.1 h with rfl | h
    · rw [hp, hq]; simp; omega
    · have := ih h hp hq hi
      by_cases hy : q y = true
      · rw [hy, hi y hy]; simp; omega
      · have : q y = false := by simpa using hy
        rw [this]; simp; split <;> omega
theorem cntF_upd {n : Nat} {m : Nat → Nat → Bool} {a c : Nat} (hc : c < n) (h : m a c = false) : cntF n (upd m a c) a < cntF n m a := by
  refine countP_lt (c := c) (List.mem_range.2 hc) (by rw [h]; rfl) (by unfold upd; simp) fun x hx => ?_
  unfold upd at hx
  by_cases e : x = c
  · rw [e, h]; rfl
  · simpa [e] using hx
/-- A row is closed under steps. -/
def Clo (n : Nat) (E : Nat → Nat → Prop) (m : Nat → Nat → Bool) (a : Nat) : Prop := ∀ b c, m a b = true → E b c → m a c = true
/-- How far rounds have closed a row. -/
def InvR (n : Nat) (E : Nat → Nat → Prop) (r : Nat) (m : Nat → Nat → Bool) (a : Nat) : Prop := Clo n E m a ∨ r + cntF n m a ≤ n
/-- The marks are of ways, and each step is marked. -/
structure Mk (n : Nat) (E : Nat → Nat → Prop) (m : Nat → Nat → Bool) : Prop where
  sound : ∀ a c, m a c = true → Far E a c
  incl : ∀ a c, E a c → m a c = true
theorem far_clo {n : Nat} {E : Nat → Nat → Prop} {m : Nat → Nat → Bool} (hm : Mk n E m) {a b c : Nat} (h : Clo n E m a) (hb : m a b = true) (hf : Far E b c) : m a c = true := by
  induction hf with
  | one e => exact h _ _ hb e
  | more _ e ih => exact h _ _ ih e
/-- One row's part of a round: from m0 on, as far as (b, c). -/
structure RowR (n : Nat) (E : Nat → Nat → Prop) (m0 m : Nat → Nat → Bool) (a b c : Nat) : Prop where
  ok : Mk n E m
  other : ∀ x, x ≠ a → m x = m0 x
  prog : (m = m0 ∧ ∀ b' c', b' < b ∨ (b' = b ∧ c' < c) → m a b' = true → E b' c' → m a c' = true) ∨ cntF n m a < cntF n m0 a
  still : Clo n E m0 a → m = m0
theorem RowR.start {n : Nat} {E : Nat → Nat → Prop} {m : Nat → Nat → Bool} (h : Mk n E m) (a : Nat) : RowR n E m m a 0 0 := ⟨h, fun _ _ => rfl, .inl ⟨rfl, fun b' c' hh => by omega⟩, fun _ => rfl⟩
theorem RowR.no {n : Nat} {E : Nat → Nat → Prop} {m0 m : Nat → Nat → Bool} {a b c : Nat} (h : RowR n E m0 m a b c) (hn : ¬ (m a b = true ∧ m b c = true)) : RowR n E m0 m a b (c + 1) :=
  ⟨h.ok, h.other, h.prog.imp (fun ⟨e, k⟩ => ⟨e, fun b' c' hh h1 h2 => by
    by_cases e2 : b' = b ∧ c' = c
    · obtain ⟨rfl, rfl⟩ := e2
      exact absurd ⟨h1, h.ok.incl _ _ h2⟩ hn
    · exact k b' c' (by omega) h1 h2⟩) id, h.still⟩
theorem upd_same {m : Nat → Nat → Bool} {a c : Nat} (h : m a c = true) : upd m a c = m := by
  funext x y
  unfold upd
  split
  · next e => rw [e.1, e.2, h]
  · rfl
theorem RowR.yes {n : Nat} {E : Nat → Nat → Prop} {m0 m : Nat → Nat → Bool} {a b c : Nat} (h : RowR n E m0 m a b c) (hc : c < n) (h1 : m a b = true) (h2 : m b c = true) : RowR n E m0 (upd m a c) a b (c + 1) := by
  cases hac : m a c with
  | true =>
    rw [upd_same hac]
    exact ⟨h.ok, h.other, h.prog.imp (fun ⟨e, k⟩ => ⟨e, fun b' c' hh h3 h4 => by
      by_cases e2 : b' = b ∧ c' = c
      · obtain ⟨rfl, rfl⟩ := e2
        exact hac
      · exact k b' c' (by omega) h3 h4⟩) id, h.still⟩
  | false =>
    have hlt := cntF_upd hc hac
    refine ⟨⟨fun x y hxy => ?_, fun x y hxy => ?_⟩, fun x hx => ?_, .inr ?_, fun hclo => ?_⟩
    · unfold upd at hxy
      split at hxy
      · next e => rw [e.1, e.2]; exact (h.ok.sound _ _ h1).trans (h.ok.sound _ _ h2)
      · exact h.ok.sound x y hxy
    · unfold upd
      split
      · rfl
      · exact h.ok.incl x y hxy
    · rw [← h.other x hx]
      funext y
      unfold upd
      rw [if_neg (fun e => hx e.1)]
    · rcases h.prog with ⟨e, _⟩ | k
      · rw [← e]; exact hlt
      · omega
    · have e := h.still hclo
      rw [← e] at hclo
      have := far_clo h.ok hclo h1 (h.ok.sound _ _ h2)
      rw [hac] at this; cases this
theorem RowR.next {n : Nat} {E : Nat → Nat → Prop} (hE : ∀ a b, E a b → a < n ∧ b < n) {m0 m : Nat → Nat → Bool} {a b : Nat} (h : RowR n E m0 m a b n) : RowR n E m0 m a (b + 1) 0 :=
  ⟨h.ok, h.other, h.prog.imp (fun ⟨e, k⟩ => ⟨e, fun b' c' hh h1 h2 => k b' c' (by have := hE _ _ h2; omega) h1 h2⟩) id, h.still⟩
theorem RowR.done {n : Nat} {E : Nat → Nat → Prop} (hE : ∀ a b, E a b → a < n ∧ b < n) {m0 m : Nat → Nat → Bool} {a r : Nat} (h : RowR n E m0 m a n 0) (hi : InvR n E r m0 a) : InvR n E (r + 1) m a := by
  rcases h.prog with ⟨e, k⟩ | k
  · exact .inl fun b c h1 h2 => k b c (by have := hE _ _ h2; omega) h1 h2
  · rcases hi with hi | hi
    · rw [h.still hi] at k; omega
    · exact .inr (by omega)
/-- A round: rows ahead of a have been gone over. -/
structure RndR (n : Nat) (E : Nat → Nat → Prop) (r a : Nat) (m : Nat → Nat → Bool) : Prop where
  ok : Mk n E m
  inv : ∀ x, x < n → InvR n E (if x < a then r + 1 else r) m x
theorem cntF_row {n : Nat} {m m' : Nat → Nat → Bool} {x : Nat} (h : m' x = m x) : cntF n m' x = cntF n m x := by unfold cntF; rw [h]
theorem RndR.row {n : Nat} {E : Nat → Nat → Prop} (hE : ∀ a b, E a b → a < n ∧ b < n) {r a : Nat} {m0 m : Nat → Nat → Bool} (h : RndR n E r a m0) (ha : a < n) (k : RowR n E m0 m a n 0) : RndR n E r (a + 1) m := by
  refine ⟨k.ok, fun x hx => ?_⟩
  by_cases e : x = a
  · subst e
    have := h.inv x hx
    rw [if_neg (by omega)] at this
    rw [if_pos (by omega)]
    exact k.done hE this
  · have h1 := h.inv x hx
    have e1 := k.other x e
    have : InvR n E (if x < a then r + 1 else r) m x := by
      rcases h1 with h1 | h1
      · exact .inl fun b c => by rw [e1]; exact h1 b c
      · exact .inr (by rw [cntF_row e1]; exact h1)
    by_cases e2 : x < a
    · rw [if_pos e2] at this; rw [if_pos (by omega)]; exact this
    · rw [if_neg e2] at this; rw [if_neg (by omega)]; exact this
theorem RndR.next {n : Nat} {E : Nat → Nat → Prop} {r : Nat} {m : Nat → Nat → Bool} (h : RndR n E r n m) : RndR n E (r + 1) 0 m :=
  ⟨h.ok, fun x hx => by have := h.inv x hx; rw [if_pos hx] at this; rw [if_neg (by omega)]; exact this⟩
theorem RndR.start {n : Nat} {E : Nat → Nat → Prop} {m : Nat → Nat → Bool} (h : ∀ a c, m a c = true ↔ E a c) : RndR n E 0 0 m :=
  ⟨⟨fun a c hh => .one ((h a c).1 hh), fun a c hh => (h a c).2 hh⟩, fun x _ => .inr (by rw [if_neg (by omega)]; have := cntF_le n m x; omega)⟩
theorem RndR.circ {n : Nat} {E : Nat → Nat → Prop} (hE : ∀ a b, E a b → a < n ∧ b < n) {m : Nat → Nat → Bool} (h : RndR n E n 0 m) {k : Nat} (hk : k < n) : m k k = true ↔ Far E k k := by
  refine ⟨h.ok.sound k k, fun hf => ?_⟩
  have hclo : Clo n E m k := by
    have := h.inv k hk
    rw [if_neg (by omega)] at this
    rcases this with h1 | h1
    · exact h1
    · have h0 : cntF n m k = 0 := by omega
      intro b c _ hbc
      have := List.countP_eq_zero.1 h0 c (List.mem_range.2 (hE _ _ hbc).2)
      simpa using this
  have key : ∀ {c : Nat}, Far E k c → m k c = true := fun hf => by
    induction hf with
    | one e => exact h.ok.incl _ _ e
    | more _ e ih => exact hclo _ _ ih e
  exact key hf
end Go.Proofs.YtodnlcbnbkkanaaGreatDoor
end
section
namespace Go.Proofs.YtodnlcbnbkkanaaGreatDoor
open Go Go.RowKit

theorem cells6s {W : World} {B t : Nat} {u0 u1 u2 u3 u4 u5 : Value} (h : Blk W B t #[u0, u1, u2, u3, u4, u5]) : W.cell? ⟨B, 0, none⟩ = some u0 ∧ W.cell? ⟨B, 1, none⟩ = some u1 ∧ W.cell? ⟨B, 2, none⟩ = some u2 ∧ W.cell? ⟨B, 3, none⟩ = some u3 ∧ W.cell? ⟨B, 4, none⟩ = some u4 ∧ W.cell? ⟨B, 5, none⟩ = some u5 :=
  ⟨h.cell 0, h.cell 1, h.cell 2, h.cell 3, h.cell 4, h.cell 5⟩
/-- Circular's blocks. -/
structure CB (g : GramM) (w : World) (Bs Bn Bd n : Nat) (S : List Int) (M : List Bool) (m : Nat → Nat → Bool) (W : World) : Prop where
  b0 : Blk W w.heap.size 27 (gramC g)
  s : Blk W Bs 3 (ints S)
  nl : Blk W Bn 4 (bools M)
  d : Blk W Bd 4 (bools (matL n m))
  b : Below w.heap.size w W
  low : w.heap.size < Bd ∧ Bs ≠ Bd ∧ Bn ≠ Bd
theorem CB.below {g : GramM} {w W V : World} {Bs Bn Bd n : Nat} {S : List Int} {M : List Bool} {m : Nat → Nat → Bool} (h : CB g w Bs Bn Bd n S M m W) (hB : Below W.heap.size W V) : CB g w Bs Bn Bd n S M m V :=
  ⟨h.b0.below hB h.b0.lt, h.s.below hB h.s.lt, h.nl.below hB h.nl.lt, h.d.below hB h.d.lt, h.b.trans (hB.mono h.b.size), h.low⟩
theorem CB.set {g : GramM} {w W : World} {Bs Bn Bd n : Nat} {S : List Int} {M : List Bool} {m : Nat → Nat → Bool} (h : CB g w Bs Bn Bd n S M m W) {a c : Nat} (ha : a < n) (hc : c < n) : CB g w Bs Bn Bd n S M (upd m a c) (W.setCell ⟨Bd, a * n + c, none⟩ (.bool true)) := by
  obtain ⟨l1, l2, l3⟩ := h.low
  refine ⟨h.b0.other (by show w.heap.size ≠ Bd; omega) _, h.s.other l2 _, h.nl.other l3 _, ?_, h.b.setCell (p := ⟨Bd, a * n + c, none⟩) (by show w.heap.size ≤ Bd; omega) _, h.low⟩
  rw [← matL_set ha hc, ← bools_setw]
  exact h.d.set _ _
/-- What the two calls leave. -/
structure TwoC (g : GramM) (w : World) (Bs Bn : Nat) (S : List Int) (M : List Bool) (W : World) : Prop where
  b0 : Blk W w.heap.size 27 (gramC g)
  s : Blk W Bs 3 (ints S)
  nl : Blk W Bn 4 (bools M)
  b : Below w.heap.size w W
  sp : ShortP g S
  np : NullP g M
theorem make_many (n : Nat) (hn : n ≤ 1000000) (w : World) : (Instr.makeSlice 31 (.int .i64 (n : Int)) (.int .i64 (n : Int))).run Tryz.prog w = .ok (.slice (some ⟨w.heap.size, 0, none⟩) n n) (w.alloc (.cells (bools (List.replicate n false)) 4)) := by
  obtain ⟨i0, hi, hz0, hz1, hz2⟩ := info_parts Tryz.info4
  rw [← bools_made]
  exact run_make_row 31 4 i0 (.bool false) Tryz.underlying31 hi hz0 hz1 rfl .i64 .i64 n (by rw [hz2]; omega) (by omega) w
theorem rshort_weak (g : GramM) (hm : MayB g) (hs : MaySet g) (w : World) (hg : GIn w g) : Calls Tryz.prog 30 #[gramV g] w fun e w' => ∃ S B, ShortP g S ∧ e = .returned (.slice (some ⟨B, 0, none⟩) g.sorts.length g.sorts.length) ∧ w.heap.size ≤ B ∧ Blk w' B 3 (ints S) ∧ Below w.heap.size w w' :=
  (rshortest_any g hm hs w hg).mono fun _ _ ⟨S, h1, h2, h3, h4⟩ => ⟨S, _, h1, h2, by omega, h3, h4⟩
theorem rnull_weak (g : GramM) (hm : MayB g) (hs : MaySet g) (w : World) (hg : GIn w g) : Calls Tryz.prog 20 #[gramV g] w fun e w' => ∃ M B, NullP g M ∧ e = .returned (.slice (some ⟨B, 0, none⟩) g.sorts.length g.sorts.length) ∧ w.heap.size ≤ B ∧ Blk w' B 4 (bools M) ∧ Below w.heap.size w w' :=
  (rnullable_any g hm hs w hg).mono fun _ _ ⟨M, B, h1, h2, h3, h4, h5⟩ => ⟨M, B, h1, by rw [h2, h1.1], h3, h4, h5⟩
end Go.Proofs.YtodnlcbnbkkanaaGreatDoor
end
section
namespace Go.Proofs.YtodnlcbnbkkanaaGreatDoor
open Go Go.RowKit

/-- The diagonal's marks, as far as they are told. -/
def diagL (n : Nat) (m : Nat → Nat → Bool) (i : Nat) : List Bool := (List.range i).map (fun k => m k k) ++ List.replicate (n - i) false
theorem diagL_len {n i : Nat} {m : Nat → Nat → Bool} : (diagL n m i).length = i + (n - i) := by unfold diagL; simp
theorem diagL_set {n i : Nat} {m : Nat → Nat → Bool} (h : i < n) : (diagL n m i).set i (m i i) = diagL n m (i + 1) := by
  unfold diagL
  obtain ⟨d, rfl⟩ : ∃ d, n = i + 1 + d := ⟨n - (i + 1), by omega⟩
  rw [List.set_append_right _ _ (by simp), show i + 1 + d - i = d + 1 by omega, show i + 1 + d - (i + 1) = d by omega, List.length_map, List.length_range, Nat.sub_self, List.replicate_succ, List.set_cons_zero, List.range_succ, List.map_append]
  simp
theorem diagL_at {n k : Nat} {m : Nat → Nat → Bool} (h : k < n) : (diagL n m n)[k]? = some (m k k) := by
  unfold diagL
  rw [List.getElem?_append_left (by simpa using h), List.getElem?_map, List.getElem?_range h]
  rfl
theorem live_exists {g : GramM} (hm : MayB g) : ∃ L, Live g L := by
  classical
  refine ⟨(List.range g.sorts.length).map fun k => decide (PV g k), by simp, fun k => ?_⟩
  rw [List.getElem?_map]
  by_cases hk : k < g.sorts.length
  · rw [List.getElem?_range hk]
    simp
  · rw [List.getElem?_eq_none (by simpa using hk)]
    constructor
    · intro h; cases h
    · intro h
      obtain ⟨x, hx, _, _⟩ := h
      obtain ⟨j, e1, e2⟩ := hm.left x hx
      exact absurd (by rw [e1, Int.toNat_natCast]; exact e2) hk
set_option maxRecDepth 100000 in
set_option maxHeartbeats 40000000 in
/-- What comes behind the edges. -/
theorem rcircular_tail {u8 u9 u10 u11 u12 u13 u20 u21 u22 u23 u36 u37 u38 u39 u40 u41 u42 u43 u44 u45 u46 u47 u48 u49 u50 u51 u52 u53 u54 u55 u56 u57 u58 u59 u60 u61 u62 u63 u64 u65 u66 u67 u68 u69 u70 u71 u72 u73 u74 u75 u76 u77 u78 u79 u80 u81 u82 u83 u84 u85 u86 u87 u88 u89 u90 u91 u92 u93 u94 u95 u96 u97 u98 u99 u100 u101 u102 u103 u104 u105 u106 u107 u108 u109 u110 u111 u112 u113 u114 u115 u116 u117 u118 u119 u120 u121 u122 u123 u124 u125 u126 u127 u128 u129 u130 u131 u132 u133 u134 u135 u136 u137 u138 u139 u140 u141 u142 u143 u144 u145 u146 u147 u148 u149 u150 u151 u152 u153 u154 u155 u156 u157 u158 u159 u160 u161 u162 u163 u164 u165 u166 u167 u168 u169 u170 u171 u172 : Value} (g : GramM) (w wr : World) (n j nn Bs Bn Bd : Nat) (S : List Int) (M : List Bool) (m : Nat → Nat → Bool)
    (HA : Hid (MayB g ∧ MaySet g)) (hn1 : n ≤ 1000) (N1 : Hid (n = g.sorts.length)) (HNN : Hid (nn = n * n)) (hnl : nn ≤ 1000000)
    (HT : Hid (ShortP g S ∧ NullP g M))
    (HZ : Hid (CB g w Bs Bn Bd n S M m wr ∧ ∀ (a b : Nat), m a b = true ↔ EdgeR g S M g.prods.length 0 a b))
    (K0 K1 : Act → World → Prop)
    (hK1 : ∀ (a : Act) (wz : World), Code.wp Tryz.prog ((Code.region 35 #[{ dst := some 154, op := Op.move (Operand.tmp 5), type := 3, pos := "ref.go:178", after := #[], guard := none }, { dst := some 155, op := Op.makeSlice 31 (Operand.tmp 154) (Operand.tmp 154), type := 31, pos := "ref.go:178", after := #[{ on := 0, ground := Ground.data }, { on := 0, ground := Ground.data }], guard := none }, { dst := some 18, op := Op.assign (Operand.tmp 155), type := 31, pos := "ref.go:178", after := #[{ on := 1, ground := Ground.data }, { on := 0, ground := Ground.phase }, { on := 1, ground := Ground.phase }], guard := none }] false).seq (((Code.region 36 #[{ dst := some 19, op := Op.assign (Operand.const (Value.int IntKind.i64 0)), type := 3, pos := "ref.go:179", after := #[], guard := none }] false).seq (Code.block 14 (((Code.region 37 #[{ dst := some 156, op := Op.move (Operand.tmp 19), type := 3, pos := "ref.go:179", after := #[], guard := none }, { dst := some 157, op := Op.move (Operand.tmp 5), type := 3, pos := "ref.go:179", after := #[], guard := none }, { dst := some 158, op := Op.binOp BinOp.lss 3 (Operand.tmp 156) (Operand.tmp 157) 3, type := 4, pos := "ref.go:179", after := #[{ on := 0, ground := Ground.data }, { on := 1, ground := Ground.data }], guard := none }] false).seq (Code.cond (Operand.tmp 158) Code.skip (Code.exit 14))).seq ((Code.block 15 (Code.region 39 #[{ dst := some 161, op := Op.move (Operand.tmp 18), type := 31, pos := "ref.go:180", after := #[], guard := none }, { dst := some 162, op := Op.move (Operand.tmp 19), type := 3, pos := "ref.go:180", after := #[], guard := none }, { dst := some 163, op := Op.move (Operand.tmp 6), type := 31, pos := "ref.go:180", after := #[], guard := none }, { dst := some 164, op := Op.move (Operand.tmp 19), type := 3, pos := "ref.go:180", after := #[], guard := none }, { dst := some 165, op := Op.move (Operand.tmp 5), type := 3, pos := "ref.go:180", after := #[], guard := none }, { dst := some 166, op := Op.binOp BinOp.mul 3 (Operand.tmp 164) (Operand.tmp 165) 3, type := 3, pos := "ref.go:180", after := #[{ on := 3, ground := Ground.data }, { on := 4, ground := Ground.data }], guard := none }, { dst := some 167, op := Op.move (Operand.tmp 19), type := 3, pos := "ref.go:180", after := #[], guard := none }, { dst := some 168, op := Op.binOp BinOp.add 3 (Operand.tmp 166) (Operand.tmp 167) 3, type := 3, pos := "ref.go:180", after := #[{ on := 5, ground := Ground.data }, { on := 6, ground := Ground.data }], guard := none }, { dst := some 169, op := Op.indexAddr 31 (Operand.tmp 163) (Operand.tmp 168), type := 0, pos := "ref.go:180", after := #[{ on := 2, ground := Ground.data }, { on := 7, ground := Ground.data }], guard := none }, { dst := some 170, op := Op.load 4 (Operand.tmp 169), type := 4, pos := "ref.go:180", after := #[{ on := 8, ground := Ground.data }], guard := none }, { dst := some 171, op := Op.indexAddr 31 (Operand.tmp 161) (Operand.tmp 162), type := 0, pos := "ref.go:180", after := #[{ on := 0, ground := Ground.data }, { on := 1, ground := Ground.data }, { on := 0, ground := Ground.phase }, { on := 1, ground := Ground.phase }, { on := 2, ground := Ground.phase }, { on := 3, ground := Ground.phase }, { on := 4, ground := Ground.phase }, { on := 5, ground := Ground.phase }, { on := 6, ground := Ground.phase }, { on := 7, ground := Ground.phase }, { on := 8, ground := Ground.phase }, { on := 9, ground := Ground.phase }], guard := none }, { dst := none, op := Op.store 4 (Operand.tmp 171) (Operand.tmp 170), type := 0, pos := "ref.go:180", after := #[{ on := 10, ground := Ground.data }, { on := 9, ground := Ground.data }, { on := 0, ground := Ground.phase }, { on := 1, ground := Ground.phase }, { on := 2, ground := Ground.phase }, { on := 3, ground := Ground.phase }, { on := 4, ground := Ground.phase }, { on := 5, ground := Ground.phase }, { on := 6, ground := Ground.phase }, { on := 7, ground := Ground.phase }, { on := 8, ground := Ground.phase }, { on := 9, ground := Ground.phase }], guard := none }] false)).seq (Code.region 38 #[{ dst := some 159, op := Op.move (Operand.tmp 19), type := 3, pos := "ref.go:179", after := #[], guard := none }, { dst := some 160, op := Op.binOp BinOp.add 3 (Operand.tmp 159) (Operand.const (Value.int IntKind.i64 1)) 3, type := 3, pos := "ref.go:179", after := #[{ on := 0, ground := Ground.data }], guard := none }, { dst := some 19, op := Op.assign (Operand.tmp 160), type := 3, pos := "ref.go:179", after := #[{ on := 1, ground := Ground.data }, { on := 0, ground := Ground.phase }, { on := 1, ground := Ground.phase }], guard := none }] false))).loop)).seq ((Code.region 40 #[{ dst := some 172, op := Op.move (Operand.tmp 18), type := 31, pos := "ref.go:182", after := #[], guard := none }, { dst := some 2, op := Op.assign (Operand.tmp 172), type := 31, pos := "ref.go:182", after := #[{ on := 0, ground := Ground.data }, { on := 0, ground := Ground.phase }], guard := none }] false).seq Code.ret))) (bodyPost Tryz.prog Tryz.f21 (MarksPost w (CircP g))) a wz → K1 a wz)
    (hK0 : ∀ (a : Act) (wz : World), Code.wp Tryz.prog (Code.block 6 (((Code.region 22 #[{ dst := some 109, op := Op.move (Operand.tmp 14), type := 3, pos := "ref.go:167", after := #[], guard := none }, { dst := some 110, op := Op.move (Operand.tmp 5), type := 3, pos := "ref.go:167", after := #[], guard := none }, { dst := some 111, op := Op.binOp BinOp.lss 3 (Operand.tmp 109) (Operand.tmp 110) 3, type := 4, pos := "ref.go:167", after := #[{ on := 0, ground := Ground.data }, { on := 1, ground := Ground.data }], guard := none }] false).seq (Code.cond (Operand.tmp 111) Code.skip (Code.exit 6))).seq ((Code.block 7 ((Code.region 24 #[{ dst := some 15, op := Op.assign (Operand.const (Value.int IntKind.i64 0)), type := 3, pos := "ref.go:168", after := #[], guard := none }] false).seq (Code.block 8 (((Code.region 25 #[{ dst := some 114, op := Op.move (Operand.tmp 15), type := 3, pos := "ref.go:168", after := #[], guard := none }, { dst := some 115, op := Op.move (Operand.tmp 5), type := 3, pos := "ref.go:168", after := #[], guard := none }, { dst := some 116, op := Op.binOp BinOp.lss 3 (Operand.tmp 114) (Operand.tmp 115) 3, type := 4, pos := "ref.go:168", after := #[{ on := 0, ground := Ground.data }, { on := 1, ground := Ground.data }], guard := none }] false).seq (Code.cond (Operand.tmp 116) Code.skip (Code.exit 8))).seq ((Code.block 9 ((Code.region 27 #[{ dst := some 16, op := Op.assign (Operand.const (Value.int IntKind.i64 0)), type := 3, pos := "ref.go:169", after := #[], guard := none }] false).seq (Code.block 10 (((Code.region 28 #[{ dst := some 119, op := Op.move (Operand.tmp 16), type := 3, pos := "ref.go:169", after := #[], guard := none }, { dst := some 120, op := Op.move (Operand.tmp 5), type := 3, pos := "ref.go:169", after := #[], guard := none }, { dst := some 121, op := Op.binOp BinOp.lss 3 (Operand.tmp 119) (Operand.tmp 120) 3, type := 4, pos := "ref.go:169", after := #[{ on := 0, ground := Ground.data }, { on := 1, ground := Ground.data }], guard := none }] false).seq (Code.cond (Operand.tmp 121) Code.skip (Code.exit 10))).seq ((Code.block 11 ((Code.region 30 #[{ dst := some 17, op := Op.assign (Operand.const (Value.int IntKind.i64 0)), type := 3, pos := "ref.go:170", after := #[], guard := none }] false).seq (Code.block 12 (((Code.region 31 #[{ dst := some 124, op := Op.move (Operand.tmp 17), type := 3, pos := "ref.go:170", after := #[], guard := none }, { dst := some 125, op := Op.move (Operand.tmp 5), type := 3, pos := "ref.go:170", after := #[], guard := none }, { dst := some 126, op := Op.binOp BinOp.lss 3 (Operand.tmp 124) (Operand.tmp 125) 3, type := 4, pos := "ref.go:170", after := #[{ on := 0, ground := Ground.data }, { on := 1, ground := Ground.data }], guard := none }] false).seq (Code.cond (Operand.tmp 126) Code.skip (Code.exit 12))).seq ((Code.block 13 ((Code.region 33 #[{ dst := some 129, op := Op.move (Operand.tmp 6), type := 31, pos := "ref.go:171", after := #[], guard := none }, { dst := some 130, op := Op.move (Operand.tmp 15), type := 3, pos := "ref.go:171", after := #[], guard := none }, { dst := some 131, op := Op.move (Operand.tmp 5), type := 3, pos := "ref.go:171", after := #[], guard := none }, { dst := some 132, op := Op.binOp BinOp.mul 3 (Operand.tmp 130) (Operand.tmp 131) 3, type := 3, pos := "ref.go:171", after := #[{ on := 1, ground := Ground.data }, { on := 2, ground := Ground.data }], guard := none }, { dst := some 133, op := Op.move (Operand.tmp 16), type := 3, pos := "ref.go:171", after := #[], guard := none }, { dst := some 134, op := Op.binOp BinOp.add 3 (Operand.tmp 132) (Operand.tmp 133) 3, type := 3, pos := "ref.go:171", after := #[{ on := 3, ground := Ground.data }, { on := 4, ground := Ground.data }], guard := none }, { dst := some 135, op := Op.indexAddr 31 (Operand.tmp 129) (Operand.tmp 134), type := 0, pos := "ref.go:171", after := #[{ on := 0, ground := Ground.data }, { on := 5, ground := Ground.data }], guard := none }, { dst := some 136, op := Op.load 4 (Operand.tmp 135), type := 4, pos := "ref.go:171", after := #[{ on := 6, ground := Ground.data }], guard := none }, { dst := some 137, op := Op.move (Operand.tmp 136), type := 4, pos := "ref.go:171", after := #[{ on := 7, ground := Ground.data }], guard := none }, { dst := some 138, op := Op.move (Operand.tmp 6), type := 31, pos := "ref.go:171", after := #[{ on := 8, ground := Ground.guard }], guard := some (8, true) }, { dst := some 139, op := Op.move (Operand.tmp 16), type := 3, pos := "ref.go:171", after := #[{ on := 8, ground := Ground.guard }], guard := some (8, true) }, { dst := some 140, op := Op.move (Operand.tmp 5), type := 3, pos := "ref.go:171", after := #[{ on := 8, ground := Ground.guard }], guard := some (8, true) }, { dst := some 141, op := Op.binOp BinOp.mul 3 (Operand.tmp 139) (Operand.tmp 140) 3, type := 3, pos := "ref.go:171", after := #[{ on := 10, ground := Ground.data }, { on := 11, ground := Ground.data }, { on := 8, ground := Ground.guard }], guard := some (8, true) }, { dst := some 142, op := Op.move (Operand.tmp 17), type := 3, pos := "ref.go:171", after := #[{ on := 8, ground := Ground.guard }], guard := some (8, true) }, { dst := some 143, op := Op.binOp BinOp.add 3 (Operand.tmp 141) (Operand.tmp 142) 3, type := 3, pos := "ref.go:171", after := #[{ on := 12, ground := Ground.data }, { on := 13, ground := Ground.data }, { on := 8, ground := Ground.guard }], guard := some (8, true) }, { dst := some 144, op := Op.indexAddr 31 (Operand.tmp 138) (Operand.tmp 143), type := 0, pos := "ref.go:171", after := #[{ on := 9, ground := Ground.data }, { on := 14, ground := Ground.data }, { on := 8, ground := Ground.guard }], guard := some (8, true) }, { dst := some 145, op := Op.load 4 (Operand.tmp 144), type := 4, pos := "ref.go:171", after := #[{ on := 15, ground := Ground.data }, { on := 8, ground := Ground.guard }], guard := some (8, true) }, { dst := some 146, op := Op.pick (Operand.tmp 137) (Operand.tmp 145) (Operand.const (Value.bool false)), type := 4, pos := "ref.go:171", after := #[{ on := 8, ground := Ground.data }, { on := 16, ground := Ground.data }], guard := none }] false).seq (Code.cond (Operand.tmp 146) (Code.region 34 #[{ dst := some 147, op := Op.move (Operand.tmp 6), type := 31, pos := "ref.go:172", after := #[], guard := none }, { dst := some 148, op := Op.move (Operand.tmp 15), type := 3, pos := "ref.go:172", after := #[], guard := none }, { dst := some 149, op := Op.move (Operand.tmp 5), type := 3, pos := "ref.go:172", after := #[], guard := none }, { dst := some 150, op := Op.binOp BinOp.mul 3 (Operand.tmp 148) (Operand.tmp 149) 3, type := 3, pos := "ref.go:172", after := #[{ on := 1, ground := Ground.data }, { on := 2, ground := Ground.data }], guard := none }, { dst := some 151, op := Op.move (Operand.tmp 17), type := 3, pos := "ref.go:172", after := #[], guard := none }, { dst := some 152, op := Op.binOp BinOp.add 3 (Operand.tmp 150) (Operand.tmp 151) 3, type := 3, pos := "ref.go:172", after := #[{ on := 3, ground := Ground.data }, { on := 4, ground := Ground.data }], guard := none }, { dst := some 153, op := Op.indexAddr 31 (Operand.tmp 147) (Operand.tmp 152), type := 0, pos := "ref.go:172", after := #[{ on := 0, ground := Ground.data }, { on := 5, ground := Ground.data }, { on := 0, ground := Ground.phase }, { on := 1, ground := Ground.phase }, { on := 2, ground := Ground.phase }, { on := 3, ground := Ground.phase }, { on := 4, ground := Ground.phase }, { on := 5, ground := Ground.phase }], guard := none }, { dst := none, op := Op.store 4 (Operand.tmp 153) (Operand.const (Value.bool true)), type := 0, pos := "ref.go:172", after := #[{ on := 6, ground := Ground.data }, { on := 0, ground := Ground.phase }, { on := 1, ground := Ground.phase }, { on := 2, ground := Ground.phase }, { on := 3, ground := Ground.phase }, { on := 4, ground := Ground.phase }, { on := 5, ground := Ground.phase }], guard := none }] false) Code.skip))).seq (Code.region 32 #[{ dst := some 127, op := Op.move (Operand.tmp 17), type := 3, pos := "ref.go:170", after := #[], guard := none }, { dst := some 128, op := Op.binOp BinOp.add 3 (Operand.tmp 127) (Operand.const (Value.int IntKind.i64 1)) 3, type := 3, pos := "ref.go:170", after := #[{ on := 0, ground := Ground.data }], guard := none }, { dst := some 17, op := Op.assign (Operand.tmp 128), type := 3, pos := "ref.go:170", after := #[{ on := 1, ground := Ground.data }, { on := 0, ground := Ground.phase }, { on := 1, ground := Ground.phase }], guard := none }] false))).loop))).seq (Code.region 29 #[{ dst := some 122, op := Op.move (Operand.tmp 16), type := 3, pos := "ref.go:169", after := #[], guard := none }, { dst := some 123, op := Op.binOp BinOp.add 3 (Operand.tmp 122) (Operand.const (Value.int IntKind.i64 1)) 3, type := 3, pos := "ref.go:169", after := #[{ on := 0, ground := Ground.data }], guard := none }, { dst := some 16, op := Op.assign (Operand.tmp 123), type := 3, pos := "ref.go:169", after := #[{ on := 1, ground := Ground.data }, { on := 0, ground := Ground.phase }, { on := 1, ground := Ground.phase }], guard := none }] false))).loop))).seq (Code.region 26 #[{ dst := some 117, op := Op.move (Operand.tmp 15), type := 3, pos := "ref.go:168", after := #[], guard := none }, { dst := some 118, op := Op.binOp BinOp.add 3 (Operand.tmp 117) (Operand.const (Value.int IntKind.i64 1)) 3, type := 3, pos := "ref.go:168", after := #[{ on := 0, ground := Ground.data }], guard := none }, { dst := some 15, op := Op.assign (Operand.tmp 118), type := 3, pos := "ref.go:168", after := #[{ on := 1, ground := Ground.data }, { on := 0, ground := Ground.phase }, { on := 1, ground := Ground.phase }], guard := none }] false))).loop))).seq (Code.region 23 #[{ dst := some 112, op := Op.move (Operand.tmp 14), type := 3, pos := "ref.go:167", after := #[], guard := none }, { dst := some 113, op := Op.binOp BinOp.add 3 (Operand.tmp 112) (Operand.const (Value.int IntKind.i64 1)) 3, type := 3, pos := "ref.go:167", after := #[{ on := 0, ground := Ground.data }], guard := none }, { dst := some 14, op := Op.assign (Operand.tmp 113), type := 3, pos := "ref.go:167", after := #[{ on := 1, ground := Ground.data }, { on := 0, ground := Ground.phase }, { on := 1, ground := Ground.phase }], guard := none }] false))).loop) (Exit.then K1 (bodyPost Tryz.prog Tryz.f21 (MarksPost w (CircP g)))) a wz → K0 a wz)
    : Code.wp Tryz.prog (Code.region 21 #[{ dst := some 14, op := Op.assign (Operand.const (Value.int IntKind.i64 0)), type := 3, pos := "ref.go:167", after := #[], guard := none }] false) (Exit.then K0 (Exit.then K1 (bodyPost Tryz.prog Tryz.f21 (MarksPost w (CircP g))))) { tmps := #[Value.agg #[Value.slice g.sa n g.sc, Value.slice g.pa j g.pc, Value.int IntKind.i64 g.start, Value.slice g.fa g.forbid.length g.fc, Value.slice g.wa g.follow.length g.wc], Value.pointer (some { block := w.heap.size, off := 0 }), Value.slice none 0 0, Value.slice (some { block := Bs, off := 0 }) n n, Value.slice (some { block := Bn, off := 0 }) n n, Value.int IntKind.i64 ((n : Nat) : Int), Value.slice (some { block := Bd, off := 0 }) nn nn, Value.int IntKind.i64 ((j : Nat) : Int), u8, u9, u10, u11, u12, u13, undef, undef, undef, undef, undef, undef, u20, u21, u22, u23, Value.pointer (some { block := w.heap.size, off := 0 }), Value.slice g.sa n g.sc, Value.int IntKind.i64 ((n : Nat) : Int), Value.int IntKind.i64 ((n : Nat) : Int), Value.int IntKind.i64 ((n : Nat) : Int), Value.int IntKind.i64 ((nn : Nat) : Int), Value.slice (some { block := Bd, off := 0 }) nn nn, Value.int IntKind.i64 ((j : Nat) : Int), Value.pointer (some { block := w.heap.size, off := 1 }), Value.slice g.pa j g.pc, Value.int IntKind.i64 ((j : Nat) : Int), Value.bool false, u36, u37, u38, u39, u40, u41, u42, u43, u44, u45, u46, u47, u48, u49, u50, u51, u52, u53, u54, u55, u56, u57, u58, u59, u60, u61, u62, u63, u64, u65, u66, u67, u68, u69, u70, u71, u72, u73, u74, u75, u76, u77, u78, u79, u80, u81, u82, u83, u84, u85, u86, u87, u88, u89, u90, u91, u92, u93, u94, u95, u96, u97, u98, u99, u100, u101, u102, u103, u104, u105, u106, u107, u108, u109, u110, u111, u112, u113, u114, u115, u116, u117, u118, u119, u120, u121, u122, u123, u124, u125, u126, u127, u128, u129, u130, u131, u132, u133, u134, u135, u136, u137, u138, u139, u140, u141, u142, u143, u144, u145, u146, u147, u148, u149, u150, u151, u152, u153, u154, u155, u156, u157, u158, u159, u160, u161, u162, u163, u164, u165, u166, u167, u168, u169, u170, u171, u172], defers := [] } wr := by
  have hE0 : ∀ a b, EdgeR g S M g.prods.length 0 a b → a < n ∧ b < n := fun a b ⟨j', i', x, s, h1, _, _, h4, h5, _, _, h8, h9⟩ => by
    have hxm := List.mem_of_getElem? h1
    obtain ⟨k, e1, e2⟩ := HA.out.1.left x hxm
    obtain ⟨t, e3, e4⟩ := HA.out.1.sym x hxm s (List.mem_of_getElem? h4) h5
    rw [N1.out]
    exact ⟨by omega, by omega⟩
  obtain ⟨E, hEE⟩ : ∃ E, E = EdgeR g S M g.prods.length 0 := ⟨_, rfl⟩
  have HEE := Lib.hid hEE
  rw [← hEE] at HZ hE0
  have HE := Lib.hid hE0
  have HR0 : Hid (CB g w Bs Bn Bd n S M m wr ∧ RndR n E 0 0 m) := Lib.hid ⟨HZ.out.1, RndR.start HZ.out.2⟩
  clear hEE hE0 HZ
  go_wp2
  go_loopw [14] (fun vr wr => ∃ (r : Nat) (m : Nat → Nat → Bool), vr = .int .i64 r ∧ r ≤ n ∧ Hid (CB g w Bs Bn Bd n S M m wr ∧ RndR n E r 0 m)) (fun vr _ => n - (intOf vr).toNat)
  case atStart => exact ⟨0, m, rfl, Nat.zero_le _, HR0⟩
  case round =>
    clear HR0
    obtain ⟨r, m, rfl, hr, K⟩ := hrel
    by_cases hlr : r < n
    · have y1 : (r : Int) < (n : Int) := by omega
      have K0' : Hid (CB g w Bs Bn Bd n S M m wr ∧ RndR n E r 0 m) := K
      clear K
      go_wp2
      obtain ⟨wo1, rfl⟩ : ∃ wo : World, wo = wr := ⟨_, rfl⟩
      go_loopw [15] (fun va wr => ∃ (a : Nat) (m : Nat → Nat → Bool), va = .int .i64 a ∧ a ≤ n ∧ Hid (CB g w Bs Bn Bd n S M m wr ∧ RndR n E r a m)) (fun va _ => n - (intOf va).toNat)
      case atStart => exact ⟨0, m, rfl, Nat.zero_le _, K0'⟩
      case round =>
        clear K0'
        obtain ⟨a, m0, rfl, ha, K⟩ := hrel
        by_cases hla : a < n
        · have y2 : (a : Int) < (n : Int) := by omega
          have K1' : Hid (CB g w Bs Bn Bd n S M m0 wr ∧ RowR n E m0 m0 a 0 0) := Lib.hid ⟨K.out.1, RowR.start K.out.2.ok a⟩
          have HRd := Lib.hid K.out.2
          clear K
          go_wp2
          obtain ⟨wo2, rfl⟩ : ∃ wo : World, wo = wr := ⟨_, rfl⟩
          go_loopw [16] (fun vb wr => ∃ (b : Nat) (m : Nat → Nat → Bool), vb = .int .i64 b ∧ b ≤ n ∧ Hid (CB g w Bs Bn Bd n S M m wr ∧ RowR n E m0 m a b 0)) (fun vb _ => n - (intOf vb).toNat)
          case atStart => exact ⟨0, m0, rfl, Nat.zero_le _, K1'⟩
          case round =>
            clear K1'
            obtain ⟨b, m, rfl, hb, K⟩ := hrel
            by_cases hlb : b < n
            · have y3 : (b : Int) < (n : Int) := by omega
              have K2' := K
              clear K
              go_wp2
              obtain ⟨wo3, rfl⟩ : ∃ wo : World, wo = wr := ⟨_, rfl⟩
              go_loopw [17] (fun vc wr => ∃ (c : Nat) (m : Nat → Nat → Bool), vc = .int .i64 c ∧ c ≤ n ∧ Hid (CB g w Bs Bn Bd n S M m wr ∧ RowR n E m0 m a b c)) (fun vc _ => n - (intOf vc).toNat)
              case atStart => exact ⟨0, m, rfl, Nat.zero_le _, K2'⟩
              case round =>
                clear K2'
                obtain ⟨c, m, rfl, hc, K⟩ := hrel
                by_cases hlc : c < n
                · have y4 : (c : Int) < (n : Int) := by omega
                  obtain ⟨an, han⟩ : ∃ q, q = a * n := ⟨_, rfl⟩
                  obtain ⟨bn, hbn⟩ : ∃ q, q = b * n := ⟨_, rfl⟩
                  obtain ⟨ab, hab⟩ : ∃ q, q = a * n + b := ⟨_, rfl⟩
                  obtain ⟨bc, hbc⟩ : ∃ q, q = b * n + c := ⟨_, rfl⟩
                  obtain ⟨ac, hac⟩ : ∃ q, q = a * n + c := ⟨_, rfl⟩
                  have l1 : ab < nn := by rw [hab, HNN.out]; exact mat_lt hla hlb
                  have l2 : bc < nn := by rw [hbc, HNN.out]; exact mat_lt hlb hlc
                  have l3 : ac < nn := by rw [hac, HNN.out]; exact mat_lt hla hlc
                  have z1 : IntKind.i64.wrap ((a : Int) * (n : Int)) = (an : Int) := by
                    rw [show ((a : Int) * (n : Int)) = ((an : Nat) : Int) by rw [han]; exact (Int.natCast_mul a n).symm]
                    exact IntWalk.i64_in _ (by omega)
                  have z2 : IntKind.i64.wrap ((b : Int) * (n : Int)) = (bn : Int) := by
                    rw [show ((b : Int) * (n : Int)) = ((bn : Nat) : Int) by rw [hbn]; exact (Int.natCast_mul b n).symm]
                    exact IntWalk.i64_in _ (by omega)
                  have z3 : IntKind.i64.wrap ((an : Int) + (b : Int)) = (ab : Int) := by
                    rw [show ((an : Int) + (b : Int)) = ((ab : Nat) : Int) by omega]
                    exact IntWalk.i64_in _ (by omega)
                  have z4 : IntKind.i64.wrap ((bn : Int) + (c : Int)) = (bc : Int) := by
                    rw [show ((bn : Int) + (c : Int)) = ((bc : Nat) : Int) by omega]
                    exact IntWalk.i64_in _ (by omega)
                  have z5 : IntKind.i64.wrap ((an : Int) + (c : Int)) = (ac : Int) := by
                    rw [show ((an : Int) + (c : Int)) = ((ac : Nat) : Int) by omega]
                    exact IntWalk.i64_in _ (by omega)
                  have x1 : (ab : Int) < (nn : Int) := by omega
                  have x2 : (0 : Int) ≤ (ab : Int) := by omega
                  have x3 : (bc : Int) < (nn : Int) := by omega
                  have x4 : (0 : Int) ≤ (bc : Int) := by omega
                  have x5 : (ac : Int) < (nn : Int) := by omega
                  have x6 : (0 : Int) ≤ (ac : Int) := by omega
                  have c1 := K.out.1.d.cell ab
                  rw [hab, matL_at hla hlb, ← hab] at c1
                  have c2 := K.out.1.d.cell bc
                  rw [hbc, matL_at hlb hlc, ← hbc] at c2
                  have c3 := K.out.1.d.cell ac
                  rw [hac, matL_at hla hlc, ← hac] at c3
                  have lD := K.out.1.d.lt
                  have fD := K.out.1.d.frozen ac
                  have HY : Hid (m a b = true → m b c = true → CB g w Bs Bn Bd n S M (upd m a c) (wr.setCell ⟨Bd, ac, none⟩ (.bool true)) ∧ RowR n E m0 (upd m a c) a b (c + 1)) := Lib.hid fun h1 h2 => ⟨by rw [hac]; exact K.out.1.set hla hlc, K.out.2.yes hlc h1 h2⟩
                  have HNo : Hid (¬ (m a b = true ∧ m b c = true) → CB g w Bs Bn Bd n S M m wr ∧ RowR n E m0 m a b (c + 1)) := Lib.hid fun h => ⟨K.out.1, K.out.2.no h⟩
                  obtain ⟨v1, hv1⟩ : ∃ v, v = m a b := ⟨_, rfl⟩
                  obtain ⟨v2, hv2⟩ : ∃ v, v = m b c := ⟨_, rfl⟩
                  rw [← hv1] at c1 HY HNo
                  rw [← hv2] at c2 HY HNo
                  clear K han hbn hab hbc hac hv1 hv2
                  cases v1 with
                  | false =>
                    have HR := Lib.hid (HNo.out (fun h => by cases h.1))
                    clear HY HNo
                    go_wp2
                    go_roundw
                    case rel => exact ⟨c + 1, m, by go_num, by omega, HR⟩
                    case measure => simp [intOf]; omega
                  | true =>
                    cases v2 with
                    | false =>
                      have HR := Lib.hid (HNo.out (fun h => by cases h.2))
                      clear HY HNo
                      go_wp2
                      go_roundw
                      case rel => exact ⟨c + 1, m, by go_num, by omega, HR⟩
                      case measure => simp [intOf]; omega
                    | true =>
                      have HR := Lib.hid (HY.out rfl rfl)
                      clear HY HNo
                      go_wp2
                      go_roundw
                      case rel => exact ⟨c + 1, _, by go_num, by omega, HR⟩
                      case measure => simp [intOf]; omega
                · obtain rfl : c = n := by omega
                  have HR : Hid (CB g w Bs Bn Bd c S M m wr ∧ RowR c E m0 m a (b + 1) 0) := Lib.hid ⟨K.out.1, K.out.2.next HE.out⟩
                  clear K
                  go_wp2
                  go_roundw
                  case rel => exact ⟨b + 1, m, by go_num, by omega, HR⟩
                  case measure => simp [intOf]; omega
            · obtain rfl : b = n := by omega
              have HR : Hid (CB g w Bs Bn Bd b S M m wr ∧ RndR b E r (a + 1) m) := Lib.hid ⟨K.out.1, HRd.out.row HE.out hla K.out.2⟩
              clear K
              go_wp2
              go_roundw
              case rel => exact ⟨a + 1, m, by go_num, by omega, HR⟩
              case measure => simp [intOf]; omega
        · obtain rfl : a = n := by omega
          have HR : Hid (CB g w Bs Bn Bd a S M m0 wr ∧ RndR a E (r + 1) 0 m0) := Lib.hid ⟨K.out.1, K.out.2.next⟩
          clear K
          go_wp2
          go_roundw
          case rel => exact ⟨r + 1, m0, by go_num, by omega, HR⟩
          case measure => simp [intOf]; omega
    · obtain rfl : r = n := by omega
      have hmk := fun w' => make_bools r hn1 w'
      have HCi : Hid (∀ k, k < r → (m k k = true ↔ Far (EdgeR g S M g.prods.length 0) k k)) := Lib.hid (fun k hk => by rw [← HEE.out]; exact K.out.2.circ HE.out hk)
      have HO0 : Hid (CB g w Bs Bn Bd r S M m (wr.alloc (.cells (bools (List.replicate r false)) 4)) ∧ Blk (wr.alloc (.cells (bools (List.replicate r false)) 4)) wr.heap.size 4 (bools (diagL r m 0))) := Lib.hid ⟨K.out.1.below ((Below.refl _ _).alloc (Nat.le_refl _) _), by
        rw [show diagL r m 0 = List.replicate r false by unfold diagL; simp]
        exact Blk.new wr 4 _⟩
      have hdo : w.heap.size ≠ wr.heap.size ∧ Bs ≠ wr.heap.size ∧ Bn ≠ wr.heap.size ∧ Bd ≠ wr.heap.size := ⟨Nat.ne_of_lt K.out.1.b0.lt, Nat.ne_of_lt K.out.1.s.lt, Nat.ne_of_lt K.out.1.nl.lt, Nat.ne_of_lt K.out.1.d.lt⟩
      have HDo := Lib.hid hdo
      have hlo : w.heap.size ≤ wr.heap.size := K.out.1.b.size
      obtain ⟨Bo, hBo⟩ : ∃ Bo, Bo = wr.heap.size := ⟨_, rfl⟩
      have HBo := Lib.hid hBo
      rw [← hBo] at HO0 HDo hlo
      clear K hBo hdo
      obtain ⟨RL, hRL⟩ : ∃ RL : Array Value, RL = bools (List.replicate r false) := ⟨_, rfl⟩
      rw [← hRL] at HO0 hmk
      clear hRL
      go_wp2
      rw [← HBo.out]
      go_loopw [19] (fun vi wr => ∃ (i : Nat), vi = .int .i64 i ∧ i ≤ r ∧ Hid (CB g w Bs Bn Bd r S M m wr ∧ Blk wr Bo 4 (bools (diagL r m i)))) (fun vi _ => r - (intOf vi).toNat)
      case atStart => exact ⟨0, rfl, Nat.zero_le _, HO0⟩
      case round =>
        clear HO0 hmk
        obtain ⟨i, rfl, hi, K⟩ := hrel
        by_cases hli : i < r
        · have y1 : (i : Int) < (r : Int) := by omega
          have y0 : (0 : Int) ≤ (i : Int) := by omega
          obtain ⟨q1, hq1⟩ : ∃ q, q = i * r := ⟨_, rfl⟩
          obtain ⟨q2, hq2⟩ : ∃ q, q = i * r + i := ⟨_, rfl⟩
          have l2 : q2 < nn := by rw [hq2, HNN.out]; exact mat_lt hli hli
          have z1 : IntKind.i64.wrap ((i : Int) * (r : Int)) = (q1 : Int) := by
            rw [show ((i : Int) * (r : Int)) = ((q1 : Nat) : Int) by rw [hq1]; exact (Int.natCast_mul i r).symm]
            exact IntWalk.i64_in _ (by omega)
          have z3 : IntKind.i64.wrap ((q1 : Int) + (i : Int)) = (q2 : Int) := by
            rw [show ((q1 : Int) + (i : Int)) = ((q2 : Nat) : Int) by omega]
            exact IntWalk.i64_in _ (by omega)
          have x1 : (q2 : Int) < (nn : Int) := by omega
          have x2 : (0 : Int) ≤ (q2 : Int) := by omega
          have c1 := K.out.1.d.cell q2
          rw [hq2, matL_at hli hli, ← hq2] at c1
          have lD := K.out.1.d.lt
          have lO := K.out.2.lt
          have fO := K.out.2.frozen i
          have cO := K.out.2.cell i
          rw [bools_at _ _ (by rw [diagL_len]; omega)] at cO
          have HR : Hid (CB g w Bs Bn Bd r S M m (wr.setCell ⟨Bo, i, none⟩ (.bool (m i i))) ∧ Blk (wr.setCell ⟨Bo, i, none⟩ (.bool (m i i))) Bo 4 (bools (diagL r m (i + 1)))) := Lib.hid ⟨by
              have h := K.out.1
              exact ⟨h.b0.other HDo.out.1 _, h.s.other HDo.out.2.1 _, h.nl.other HDo.out.2.2.1 _, h.d.other HDo.out.2.2.2 _, h.b.setCell (p := ⟨Bo, i, none⟩) hlo _, h.low⟩, by
              rw [← diagL_set hli, ← bools_setw]
              exact K.out.2.set i _⟩
          clear K hq1 hq2
          go_wp2
          go_roundw
          case rel => exact ⟨i + 1, by go_num, by omega, HR⟩
          case measure => simp [intOf]; omega
        · obtain rfl : i = r := by omega
          have HR : Hid (Blk wr Bo 4 (bools (diagL i m i)) ∧ Below w.heap.size w wr ∧ CircP g (diagL i m i) ∧ (diagL i m i).length = i) := Lib.hid ⟨K.out.2, K.out.1.b, by
            obtain ⟨L, hL⟩ := live_exists HA.out.1
            refine ⟨by rw [diagL_len]; have := N1.out; omega, M, L, HT.out.2, hL, fun k hk => ?_⟩
            rw [← N1.out] at hk
            rw [diagL_at hk]
            have e : EdgeR g S M g.prods.length 0 = LeadE g M L := by
              funext a b
              exact propext (edge_lead HA.out.1 HA.out.2 HT.out.1 HT.out.2 hL a b)
            rw [← e, ← HCi.out k hk]
            simp, by rw [diagL_len]; omega⟩
          clear K
          go_wp2
          go_ret
          exact ⟨diagL i m i, Bo, HR.out.2.2.1, by rw [HR.out.2.2.2]; rfl, hlo, HR.out.1, HR.out.2.1⟩
end Go.Proofs.YtodnlcbnbkkanaaGreatDoor
end
section
namespace Go.Proofs.YtodnlcbnbkkanaaGreatDoor
open Go Go.RowKit

set_option maxRecDepth 100000 in
set_option maxHeartbeats 8000000 in
/-- The reference's Circular. -/
theorem rcircular_any (g : GramM) (hm : MayB g) (hs : MaySet g) (w : World) (hg : GIn w g) : Calls Tryz.prog 21 #[gramV g] w (MarksPost w (CircP g)) := by
  have HA := Lib.hid (And.intro hm (And.intro hs hg))
  have hn1 := hm.sorts2
  have hn2 := hm.prods
  have HSh := Lib.hid (fun W (hW : Below w.heap.size w W) => rshort_weak g hm hs W (hg.below hW))
  have HNu := Lib.hid (fun W (hW : Below w.heap.size w W) => rnull_weak g hm hs W (hg.below hW))
  have HB0 : Hid (Below w.heap.size w (w.alloc (.cells (gramC g) 27))) := Lib.hid ((Below.refl _ _).alloc (Nat.le_refl _) _)
  have HK0 : Hid (Blk (w.alloc (.cells (gramC g) 27)) w.heap.size 27 (gramC g)) := Lib.hid (Blk.new w 27 _)
  obtain ⟨n, hn⟩ : ∃ n, n = g.sorts.length := ⟨_, rfl⟩
  obtain ⟨np, hnp⟩ : ∃ n, n = g.prods.length := ⟨_, rfl⟩
  have N1 := Lib.hid hn
  have N2 := Lib.hid hnp
  rw [← hn] at hn1 HSh HNu
  rw [← hnp] at hn2
  clear hm hs hg
  unfold gramV gramC at *
  rw [← hn, ← hnp] at HB0 HK0 HSh HNu ⊢
  have HGr : Hid (gramC g = #[.slice g.sa n g.sc, .slice g.pa np g.pc, .int .i64 g.start, .slice g.fa g.forbid.length g.fc, .slice g.wa g.follow.length g.wc]) := Lib.hid (by rw [hn, hnp]; rfl)
  clear hn hnp
  go_enter Tryz.func21, Tryz.ntmps21
  go_upto_region 1 with fail
  go_cut [3, 4] from 20 (fun s3 s4 wx => ∃ Bs Bn S M, s3 = .slice (some ⟨Bs, 0, none⟩) n n ∧ s4 = .slice (some ⟨Bn, 0, none⟩) n n ∧ Hid (TwoC g w Bs Bn S M wx ∧ w.heap.size < Bs ∧ w.heap.size < Bn))
  case first =>
    obtain ⟨c0, c1, c2, c3, c4⟩ := cells5s HK0.out
    have l0 := HK0.out.lt
    go_region_law (first
      | (go_simp; go_at_call 30; refine (HSh.out _ HB0.out.drew).mono ?_; rintro e ws ⟨S, Bs, hS, rfl, hbs, hks, hBs⟩; have HS := Lib.hid hS; have HKs := Lib.hid hks; have HBs := Lib.hid (HB0.out.drew.trans (hBs.mono HB0.out.drew.size)); have HK1 := Lib.hid (HK0.out.drew.below hBs HK0.out.drew.lt); have Hbs := Lib.hid hbs; obtain ⟨d0, d1, d2, d3, d4⟩ := cells5s HK1.out; have l1 := HK1.out.lt; clear hS hbs hks hBs)
      | (go_simp; go_at_call 20; refine (HNu.out _ HBs.out).mono ?_; rintro e wn ⟨M, Bn, hM, rfl, hbn, hkn, hBn⟩; have HM := Lib.hid hM; have HKn := Lib.hid hkn; have HBn := Lib.hid hBn; have Hbn := Lib.hid hbn; clear hM hbn hkn hBn))
    all_goals (
      go_wp2
      go_meet
      case rel =>
        refine ⟨_, _, S, M, rfl, rfl, Lib.hid ⟨⟨by rw [HGr.out]; exact HK1.out.below HBn.out HK1.out.lt, HKs.out.below HBn.out HKs.out.lt, HKn.out, HBs.out.trans (HBn.out.mono HBs.out.size), HS.out, HM.out⟩, ?_, ?_⟩⟩
        · have := Hbs.out; simp at this; omega
        · have := Hbn.out; have := HK1.out.lt; omega)
  obtain ⟨Bs, Bn, S, M, rfl, rfl, HT⟩ := hcut
  clear HSh HNu HB0 HK0
  have HT0 := Lib.hid (show Blk wc w.heap.size 27 #[.slice g.sa n g.sc, .slice g.pa np g.pc, .int .i64 g.start, .slice g.fa g.forbid.length g.fc, .slice g.wa g.follow.length g.wc] by rw [← HGr.out]; exact HT.out.1.b0)
  obtain ⟨c0, c1, c2, c3, c4⟩ := cells5s HT0.out
  have lc := HT0.out.lt
  obtain ⟨nn, hnn⟩ : ∃ nn, nn = n * n := ⟨_, rfl⟩
  have HNN := Lib.hid hnn
  have hnl : nn ≤ 1000000 := by rw [hnn]; exact Nat.mul_le_mul hn1 hn1
  have z0 : IntKind.i64.wrap ((n : Int) * (n : Int)) = (nn : Int) := by
    rw [show ((n : Int) * (n : Int)) = ((nn : Nat) : Int) by rw [hnn]; exact (Int.natCast_mul n n).symm]
    exact IntWalk.i64_in _ (by omega)
  have hmk := fun w' => make_many nn hnl w'
  have HE0 : Hid (EdgeR g S M 0 0 = fun _ _ => False) := Lib.hid (by funext a b; exact propext ⟨fun h => EdgeR.zero h, fun h => h.elim⟩)
  have HC0 : Hid (CB g w Bs Bn wc.heap.size n S M (fun _ _ => false) (wc.alloc (.cells (bools (List.replicate nn false)) 4))) := Lib.hid (by
    have h2 := Blk.new wc 4 (bools (List.replicate nn false))
    have h0 := HT.out.1
    refine ⟨h0.b0.alloc _, h0.s.alloc _, h0.nl.alloc _, ?_, h0.b.alloc h0.b.size _, ?_⟩
    · rw [matL_none, ← HNN.out]; exact h2
    · have a1 := h0.s.lt
      have a2 := h0.nl.lt
      have a3 := h0.b0.lt
      exact ⟨a3, by omega, by omega⟩)
  have hwd : w.heap.size < wc.heap.size := lc
  obtain ⟨Bd, hBd⟩ : ∃ Bd, Bd = wc.heap.size := ⟨_, rfl⟩
  have HBd := Lib.hid hBd
  rw [← hBd] at HC0
  obtain ⟨RL, hRL⟩ : ∃ RL : Array Value, RL = bools (List.replicate nn false) := ⟨_, rfl⟩
  rw [← hRL] at HC0 hmk
  clear hnn HT0 hBd hRL
  go_wp2
  rw [← HBd.out]
  go_loopw [7] (fun vi wr => ∃ (j : Nat) (m : Nat → Nat → Bool), vi = .int .i64 j ∧ j ≤ np ∧ Hid (CB g w Bs Bn Bd n S M m wr ∧ ∀ a b, m a b = true ↔ EdgeR g S M j 0 a b)) (fun vi _ => np - (intOf vi).toNat)
  case atStart => exact ⟨0, _, rfl, Nat.zero_le _, Lib.hid ⟨HC0.out, fun a b => ⟨fun h => (by cases h), fun h => absurd h EdgeR.zero⟩⟩⟩
  case round =>
    clear HC0 hmk c0 c1 c2 c3 c4 lc z0
    obtain ⟨j, m, rfl, hj, K⟩ := hrel
    have hb0 : Blk wr w.heap.size 27 #[.slice g.sa n g.sc, .slice g.pa np g.pc, .int .i64 g.start, .slice g.fa g.forbid.length g.fc, .slice g.wa g.follow.length g.wc] := by rw [← HGr.out]; exact K.out.1.b0
    obtain ⟨c0, c1, c2, c3, c4⟩ := cells5s hb0
    have l0 := hb0.lt
    by_cases hlj : j < np
    · obtain ⟨x, hx⟩ : ∃ x, g.prods[j]? = some x := ⟨_, List.getElem?_eq_getElem (by rw [← N2.out]; exact hlj)⟩
      obtain ⟨b1, o1, e1, hb1, hc1, hi1⟩ := HA.out.2.2.prods j x hx
      obtain ⟨x0, x1, x2, x3, x4, x5, x6⟩ := Prod_at (hc1.below K.out.1.b hb1)
      have hb1' := Nat.lt_of_lt_of_le hb1 K.out.1.b.size
      have y2 : (j : Int) < (np : Int) := by omega
      have y0 : (0 : Int) ≤ (j : Int) := by omega
      have hxm := List.mem_of_getElem? hx
      obtain ⟨k, hk, hkn⟩ := HA.out.1.left x hxm
      have HX := Lib.hid hx
      have HXI := Lib.hid (And.intro hi1 (And.intro (HA.out.1.right x hxm) (And.intro (HA.out.1.kind x hxm) (HA.out.1.sym x hxm))))
      have HXb := Lib.hid (Blk.new wr 65 (prodC x))
      have HK1 := Lib.hid (K.out.1.below (V := wr.alloc (.cells (prodC x) 65)) ((Below.refl _ _).alloc (Nat.le_refl _) _))
      have HEd := Lib.hid K.out.2
      have hdb : Bd < wr.heap.size := K.out.1.d.lt
      have HTr := Lib.hid (fun W => rtree_any x W)
      rw [e1] at c1
      have hkn' : k < n := by rw [N1.out]; exact hkn
      clear K hx hi1 hc1 hxm hkn e1 hb0
      obtain ⟨xf, xra, xrc, xr, xco, xro, xpr, xav, xfr⟩ := x
      unfold prodC at HXb HK1
      unfold prodV at HTr
      unfold prodC at HTr
      dsimp only at *
      subst hk
      obtain ⟨xn, hxn⟩ : ∃ xn, xn = xr.length := ⟨_, rfl⟩
      have HXn := Lib.hid hxn
      rw [← hxn] at HXb HK1 HTr x1
      have hx30 : xn ≤ 30 := by rw [hxn]; exact HXI.out.2.1
      obtain ⟨Bp, hBp⟩ : ∃ Bp, Bp = wr.heap.size := ⟨_, rfl⟩
      have HBp := Lib.hid hBp
      have hpd : Bp ≠ Bd := by omega
      rw [← hBp] at HXb
      clear hxn hBp
      go_wp2_with fail
      rw [← HBp.out]
      with_reducible refine (HTr.out _).mono ?_
      rintro e w3 ⟨rfl, hB3⟩
      have HK3 := Lib.hid (HK1.out.below hB3)
      have hX3 := HXb.out.below hB3 HXb.out.lt
      have HX3 := Lib.hid hX3
      obtain ⟨d0, d1, d2, d3, d4, d5, d6⟩ := cells7g hX3
      have dl := hX3.lt
      clear hB3 HTr HXb HK1 hX3 x0 x1 x2 x3 x4 x5 x6 c0 c1 c2 c3 c4 l0 hb1 hb1' hdb HBp
      cases hr : (xro == 11) with
      | true =>
        have HZ : Hid (CB g w Bs Bn Bd n S M m w3 ∧ ∀ a b, m a b = true ↔ EdgeR g S M (j + 1) 0 a b) := Lib.hid ⟨HK3.out, fun a b => (HEd.out a b).trans (EdgeR.skip HX.out (fun h => absurd (by simpa using hr) h))⟩
        clear HK3 HEd hr
        go_wp2
        go_roundw
        case rel => exact ⟨j + 1, m, by go_num, by omega, HZ⟩
        case measure => simp [intOf]; omega
      | false =>
        have Hr : Hid (¬ xro = 11) := Lib.hid (by simpa using hr)
        have HI0 : Hid (CB g w Bs Bn Bd n S M m w3 ∧ Blk w3 Bp 65 #[.int .i64 (k : Int), .slice xra xn xrc, .string xco, .int .i64 xro, .bool xpr, .bool xav, .int .i64 xfr] ∧ ∀ a b, m a b = true ↔ EdgeR g S M j 0 a b) := Lib.hid ⟨HK3.out, HX3.out, HEd.out⟩
        clear HK3 HX3 HEd hr d0 d1 d2 d3 d4 d5 d6 dl
        go_wp2
        obtain ⟨wo, rfl⟩ : ∃ wo : World, wo = wr := ⟨_, rfl⟩
        go_loopg [9] xn (fun gg vi wr => ∃ (i : Nat) (m : Nat → Nat → Bool), vi = .int .i64 i ∧ i ≤ xn ∧ xn - i ≤ gg ∧ Hid (CB g w Bs Bn Bd n S M m wr ∧ Blk wr Bp 65 #[.int .i64 (k : Int), .slice xra xn xrc, .string xco, .int .i64 xro, .bool xpr, .bool xav, .int .i64 xfr] ∧ ∀ a b, m a b = true ↔ EdgeR g S M j i a b))
        case atStart => exact ⟨0, m, rfl, Nat.zero_le _, Nat.le_refl _, HI0⟩
        case round =>
          clear HI0
          obtain ⟨i, m, rfl, hi, hgg, K⟩ := hrel
          obtain ⟨d0, d1, d2, d3, d4, d5, d6⟩ := cells7g K.out.2.1
          have dl := K.out.2.1.lt
          by_cases hlt : i < xn
          · obtain ⟨s, hs⟩ : ∃ s, xr[i]? = some s := ⟨_, List.getElem?_eq_getElem (by rw [← HXn.out]; exact hlt)⟩
            obtain ⟨b1, o1, e1, hb1, hc1, _⟩ := HXI.out.1 i s hs
            obtain ⟨s0, s1, s2, s3, s4, s5⟩ := Sym_at (hc1.below K.out.1.b hb1)
            have hb1' := Nat.lt_of_lt_of_le hb1 K.out.1.b.size
            have y1 : (i : Int) < (xn : Int) := by omega
            have y0 : (0 : Int) ≤ (i : Int) := by omega
            have hsm := List.mem_of_getElem? hs
            have HSi := Lib.hid hs
            have HSk := Lib.hid (And.intro (HXI.out.2.2.1 s hsm) (HXI.out.2.2.2 s hsm))
            dsimp only at e1
            rw [e1] at d1
            clear hs hc1 hsm e1
            obtain ⟨sk, ss, so⟩ := s
            dsimp only at *
            have hBx : Below wr.heap.size wr (wr.alloc (.cells #[.int .i64 sk, .int .u64 (wdI ss 0), .int .u64 (wdI ss 1), .int .u64 (wdI ss 2), .int .u64 (wdI ss 3), .int .i64 so] 60)) := (Below.refl _ _).alloc (Nat.le_refl _) _
            have HBx := Lib.hid hBx
            have HCx := Lib.hid (K.out.1.below hBx)
            have HPx := Lib.hid (K.out.2.1.below hBx K.out.2.1.lt)
            have HSb := Lib.hid (Blk.new wr 60 #[.int .i64 sk, .int .u64 (wdI ss 0), .int .u64 (wdI ss 1), .int .u64 (wdI ss 2), .int .u64 (wdI ss 3), .int .i64 so])
            have HEd := Lib.hid K.out.2.2
            have hsd : Bd < wr.heap.size := K.out.1.d.lt
            have hBsl := K.out.1.s.lt
            obtain ⟨Bx, hBx'⟩ : ∃ Bx, Bx = wr.heap.size := ⟨_, rfl⟩
            have HBxe := Lib.hid hBx'
            have hxd : Bx ≠ Bd := by omega
            obtain ⟨W1, hW1⟩ : ∃ W1, W1 = wr.alloc (.cells #[.int .i64 sk, .int .u64 (wdI ss 0), .int .u64 (wdI ss 1), .int .u64 (wdI ss 2), .int .u64 (wdI ss 3), .int .i64 so] 60) := ⟨_, rfl⟩
            have HW1 := Lib.hid hW1
            rw [← hBx', ← hW1] at HSb
            rw [← hW1] at HCx HPx HBx
            clear K hBx hBx' hW1
            go_upto_region 13 with fail
            rw [← HBxe.out, ← HW1.out]
            obtain ⟨t0, t1, t2, t3, t4, t5⟩ := cells6s HSb.out
            have tl := HSb.out.lt
            clear d0 d1 d2 d3 d4 d5 d6 dl s0 s1 s2 s3 s4 s5 hb1 hb1'
            go_cut [11] from 46 to 108 (fun sa wx => ∃ al : Bool, sa = .bool al ∧ wx = W1 ∧ Hid (al = true ↔ (sk = 1 ∧ 0 ≤ gi S so)))
            case first =>
              cases k1 : (sk == 1) with
              | false =>
                have HZ : Hid (false = true ↔ (sk = 1 ∧ 0 ≤ gi S so)) := Lib.hid ⟨fun h => (by cases h), fun h => absurd h.1 (by simpa using k1)⟩
                go_wp2
                go_meet
                case rel => exact ⟨false, rfl, rfl, HZ⟩
              | true =>
                have hk1 : sk = 1 := by simpa using k1
                obtain ⟨kk, hkk, hkn2⟩ := HSk.out.2 hk1
                subst hkk
                obtain ⟨v, hv⟩ : ∃ v, v = gi S (kk : Int) := ⟨_, rfl⟩
                have hSl : kk < S.length := by rw [HT.out.1.sp.1]; exact hkn2
                have hgs : S[kk]? = some v := by
                  rw [hv]
                  have h := List.getElem?_eq_getElem hSl
                  rw [gi_some (i := (kk : Int)) (by rw [Int.toNat_natCast]; exact h)]
                  exact h
                have cS := HCx.out.s.cell kk
                have lS := HCx.out.s.lt
                rw [ints_at _ _ hSl, (List.getElem?_eq_some_iff.1 hgs).2] at cS
                have kz1 : (kk : Int) < (n : Int) := by rw [N1.out]; omega
                have kz0 : (0 : Int) ≤ (kk : Int) := by omega
                have HV := Lib.hid hv
                clear hv hgs hSl HSk
                by_cases hv0 : 0 ≤ v
                · have e2 : decide (0 ≤ v) = true := by simpa using hv0
                  have HZ : Hid (sk = 1 ∧ 0 ≤ gi S (kk : Int)) := Lib.hid ⟨hk1, by rw [← HV.out]; exact hv0⟩
                  clear hk1
                  go_wp2
                  go_meet
                  case rel => exact ⟨true, rfl, rfl, Lib.hid ⟨fun _ => HZ.out, fun _ => rfl⟩⟩
                · have e2 : decide (0 ≤ v) = false := by simpa using hv0
                  have HZ : Hid (false = true ↔ (sk = 1 ∧ 0 ≤ gi S (kk : Int))) := Lib.hid ⟨fun h => (by cases h), fun h => absurd h.2 (by rw [← HV.out]; exact hv0)⟩
                  clear hk1
                  go_wp2
                  go_meet
                  case rel => exact ⟨false, rfl, rfl, HZ⟩
            obtain ⟨al, rfl, hwx, HAl⟩ := hcut
            rw [hwx]
            have HL0 : Hid (CB g w Bs Bn Bd n S M m W1 ∧ Blk W1 Bp 65 #[.int .i64 (k : Int), .slice xra xn xrc, .string xco, .int .i64 xro, .bool xpr, .bool xav, .int .i64 xfr] ∧ Blk W1 Bx 60 #[.int .i64 sk, .int .u64 (wdI ss 0), .int .u64 (wdI ss 1), .int .u64 (wdI ss 2), .int .u64 (wdI ss 3), .int .i64 so] ∧ (al = true ↔ (al = true ∧ ∀ (t : Nat) (s' : SymM), t < 0 → xr[t]? = some s' → t ≠ i → filledQ M s' = false))) := Lib.hid ⟨HCx.out, HPx.out, HSb.out, fun h => ⟨h, fun t s' ht => by omega⟩, fun h => h.1⟩
            clear HCx HPx HSb HW1 HBx HBxe t0 t1 t2 t3 t4 t5 tl hwx
            go_wp2
            go_loopw [11, 12] (fun va vj wr => ∃ (al' : Bool) (jj : Nat), va = .bool al' ∧ vj = .int .i64 jj ∧ jj ≤ xn ∧ Hid (CB g w Bs Bn Bd n S M m wr ∧ Blk wr Bp 65 #[.int .i64 (k : Int), .slice xra xn xrc, .string xco, .int .i64 xro, .bool xpr, .bool xav, .int .i64 xfr] ∧ Blk wr Bx 60 #[.int .i64 sk, .int .u64 (wdI ss 0), .int .u64 (wdI ss 1), .int .u64 (wdI ss 2), .int .u64 (wdI ss 3), .int .i64 so] ∧ (al' = true ↔ (al = true ∧ ∀ (t : Nat) (s' : SymM), t < jj → xr[t]? = some s' → t ≠ i → filledQ M s' = false)))) (fun _ vj _ => xn - (intOf vj).toNat)
            case atStart => exact ⟨al, 0, rfl, rfl, Nat.zero_le _, HL0⟩
            case round =>
              clear HL0
              obtain ⟨al', jj, rfl, rfl, hjj, K⟩ := hrel
              obtain ⟨d0, d1, d2, d3, d4, d5, d6⟩ := cells7g K.out.2.1
              have dl := K.out.2.1.lt
              by_cases hlt3 : jj < xn
              · obtain ⟨y, hy⟩ : ∃ y, xr[jj]? = some y := ⟨_, List.getElem?_eq_getElem (by rw [← HXn.out]; exact hlt3)⟩
                obtain ⟨b2, o2, e2, hb2, hc2, _⟩ := HXI.out.1 jj y hy
                obtain ⟨q0, q1, q2, q3, q4, q5⟩ := Sym_at (hc2.below K.out.1.b hb2)
                have hb2' := Nat.lt_of_lt_of_le hb2 K.out.1.b.size
                have v1 : (jj : Int) < (xn : Int) := by omega
                have v0 : (0 : Int) ≤ (jj : Int) := by omega
                have hym := List.mem_of_getElem? hy
                have HYk := Lib.hid (And.intro (HXI.out.2.2.1 y hym) (HXI.out.2.2.2 y hym))
                have HNx : Hid (∀ b : Bool, (b = true ↔ (al' = true ∧ (jj ≠ i → filledQ M y = false))) → (b = true ↔ (al = true ∧ ∀ (t : Nat) (s' : SymM), t < jj + 1 → xr[t]? = some s' → t ≠ i → filledQ M s' = false))) := Lib.hid (fun b hb => hb.trans (by
                  rw [K.out.2.2.2]
                  constructor
                  · rintro ⟨⟨h1, h2⟩, h3⟩
                    refine ⟨h1, fun t s' ht hs' hne => ?_⟩
                    by_cases e : t = jj
                    · subst e
                      rw [hy] at hs'; cases hs'
                      exact h3 hne
                    · exact h2 t s' (by omega) hs' hne
                  · rintro ⟨h1, h2⟩
                    exact ⟨⟨h1, fun t s' ht hs' hne => h2 t s' (by omega) hs' hne⟩, fun hne => h2 jj y (by omega) hy hne⟩))
                dsimp only at e2
                rw [e2] at d1
                have hBy : Below wr.heap.size wr (wr.alloc (.cells (symC y) 60)) := (Below.refl _ _).alloc (Nat.le_refl _) _
                have HZ4 : Hid (CB g w Bs Bn Bd n S M m (wr.alloc (.cells (symC y) 60)) ∧ Blk (wr.alloc (.cells (symC y) 60)) Bp 65 #[.int .i64 (k : Int), .slice xra xn xrc, .string xco, .int .i64 xro, .bool xpr, .bool xav, .int .i64 xfr] ∧ Blk (wr.alloc (.cells (symC y) 60)) Bx 60 #[.int .i64 sk, .int .u64 (wdI ss 0), .int .u64 (wdI ss 1), .int .u64 (wdI ss 2), .int .u64 (wdI ss 3), .int .i64 so]) := Lib.hid ⟨K.out.1.below hBy, K.out.2.1.below hBy dl, K.out.2.2.1.below hBy K.out.2.2.1.lt⟩
                have HNl := Lib.hid K.out.1.nl
                clear hy hc2 hym e2 hBy K
                obtain ⟨yk, ys, yo⟩ := y
                unfold symC at HZ4
                dsimp only at *
                cases hal : al' with
                | false =>
                  have HR := Lib.hid (HNx.out false ⟨fun h => (by cases h), fun h => by rw [hal] at h; exact h.1⟩)
                  clear HNx hal
                  go_wp2
                  go_roundw
                  case rel => exact ⟨false, jj + 1, rfl, by go_num, by omega, Lib.hid ⟨HZ4.out.1, HZ4.out.2.1, HZ4.out.2.2, HR.out⟩⟩
                  case measure => simp [intOf]; omega
                | true =>
                  have Hal := Lib.hid hal
                  clear hal
                  by_cases hji : jj = i
                  · have HR := Lib.hid (HNx.out true ⟨fun _ => ⟨Hal.out, fun h => absurd hji h⟩, fun _ => rfl⟩)
                    subst hji
                    clear HNx
                    go_wp2
                    go_roundw
                    case rel => exact ⟨true, jj + 1, rfl, by go_num, by omega, Lib.hid ⟨HZ4.out.1, HZ4.out.2.1, HZ4.out.2.2, HR.out⟩⟩
                    case measure => simp [intOf]; omega
                  · have hji2 : ((jj : Int) == (i : Int)) = false := by simp; omega
                    cases hyk : (yk == 1) with
                    | false =>
                      have HR := Lib.hid (HNx.out false ⟨fun h => (by cases h), fun h => by
                        have h1 := h.2 hji
                        unfold filledQ at h1
                        rcases HYk.out.1 with h2 | h2
                        · rw [h2] at h1; simp at h1
                        · rw [h2] at hyk; cases hyk⟩)
                      clear HNx hji
                      go_wp2
                      go_roundw
                      case rel => exact ⟨false, jj + 1, rfl, by go_num, by omega, Lib.hid ⟨HZ4.out.1, HZ4.out.2.1, HZ4.out.2.2, HR.out⟩⟩
                      case measure => simp [intOf]; omega
                    | true =>
                      have hyk1 : yk = 1 := by simpa using hyk
                      obtain ⟨yo', hyo, hyn⟩ := HYk.out.2 hyk1
                      subst hyo
                      have hml : yo' < M.length := by rw [HT.out.1.np.1]; exact hyn
                      have cN := HNl.out.cell yo'
                      have lN := HNl.out.lt
                      rw [bools_at _ _ hml] at cN
                      obtain ⟨v, hv⟩ : ∃ v, v = lv M (yo' : Int) := ⟨_, rfl⟩
                      rw [← hv] at cN
                      have HR := Lib.hid (HNx.out v ⟨fun h => ⟨Hal.out, fun _ => by unfold filledQ; rw [hyk1, ← hv, h]; rfl⟩, fun h => by
                        have h1 := h.2 hji
                        unfold filledQ at h1
                        rw [← hv] at h1
                        cases v with
                        | true => rfl
                        | false => simp at h1⟩)
                      have w1 : (yo' : Int) < (n : Int) := by rw [N1.out]; omega
                      have w0 : (0 : Int) ≤ (yo' : Int) := by omega
                      clear HNx hji hv hml hyn hyk1
                      go_wp2
                      go_roundw
                      case rel => exact ⟨v, jj + 1, rfl, by go_num, by omega, Lib.hid ⟨HZ4.out.1, HZ4.out.2.1, HZ4.out.2.2, HR.out⟩⟩
                      case measure => simp [intOf]; omega
              · obtain rfl : jj = xn := by omega
                have hin : i < jj := hlt
                have HAlo : Hid (al' = true ↔ (sk = 1 ∧ 0 ≤ gi S so ∧ AloneP M ⟨(k : Int), xra, xrc, xr, xco, xro, xpr, xav, xfr⟩ i)) := Lib.hid (by
                  rw [K.out.2.2.2, HAl.out, and_assoc]
                  refine and_congr_right fun _ => and_congr_right fun _ => ⟨fun h t s' hs' hne => h t s' (by have h9 : t < xr.length := (List.getElem?_eq_some_iff.1 hs').1; have := HXn.out; omega) hs' hne, fun h t s' _ hs' hne => h t s' hs' hne⟩)
                obtain ⟨t0, t1, t2, t3, t4, t5⟩ := cells6s K.out.2.2.1
                have tl := K.out.2.2.1.lt
                cases hal : al' with
                | false =>
                  have HR : Hid (CB g w Bs Bn Bd n S M m wr ∧ Blk wr Bp 65 #[.int .i64 (k : Int), .slice xra jj xrc, .string xco, .int .i64 xro, .bool xpr, .bool xav, .int .i64 xfr] ∧ ∀ a b, m a b = true ↔ EdgeR g S M j (i + 1) a b) := Lib.hid ⟨K.out.1, K.out.2.1, fun a b => (HEd.out a b).trans (EdgeR.no HX.out HSi.out (fun h => by
                    have := HAlo.out.2 h
                    rw [hal] at this; cases this))⟩
                  clear K HAlo hal
                  go_wp2
                  go_roundg (jj - (i + 1))
                  case rel => exact ⟨i + 1, m, by go_num, by omega, Nat.le_refl _, HR⟩
                  case measure => omega
                | true =>
                  obtain ⟨hk1, hg0, hAlo⟩ := HAlo.out.1 hal
                  obtain ⟨kk, hkk, hkn2⟩ := HSk.out.2 hk1
                  have hkkn : kk < n := by rw [N1.out]; exact hkn2
                  subst hkk
                  obtain ⟨q1, hq1⟩ : ∃ q1, q1 = k * n := ⟨_, rfl⟩
                  obtain ⟨q2, hq2⟩ : ∃ q2, q2 = k * n + kk := ⟨_, rfl⟩
                  have hq2l : q2 < nn := by rw [hq2, HNN.out]; exact mat_lt hkn' hkkn
                  have z1 : IntKind.i64.wrap ((k : Int) * (n : Int)) = (q1 : Int) := by
                    rw [show ((k : Int) * (n : Int)) = ((q1 : Nat) : Int) by rw [hq1]; exact (Int.natCast_mul k n).symm]
                    exact IntWalk.i64_in _ (by omega)
                  have z2 : IntKind.i64.wrap ((q1 : Int) + (kk : Int)) = (q2 : Int) := by
                    rw [show ((q1 : Int) + (kk : Int)) = ((q2 : Nat) : Int) by omega]
                    exact IntWalk.i64_in _ (by omega)
                  have y3 : (q2 : Int) < (nn : Int) := by omega
                  have y4 : (0 : Int) ≤ (q2 : Int) := by omega
                  have cD := K.out.1.d.cell q2
                  rw [hq2, matL_at hkn' hkkn, ← hq2] at cD
                  have lD := K.out.1.d.lt
                  have fD := K.out.1.d.frozen q2
                  have HR : Hid (CB g w Bs Bn Bd n S M (upd m k kk) (wr.setCell ⟨Bd, q2, none⟩ (.bool true)) ∧ Blk (wr.setCell ⟨Bd, q2, none⟩ (.bool true)) Bp 65 #[.int .i64 (k : Int), .slice xra jj xrc, .string xco, .int .i64 xro, .bool xpr, .bool xav, .int .i64 xfr] ∧ ∀ a b, upd m k kk a b = true ↔ EdgeR g S M j (i + 1) a b) := Lib.hid ⟨by rw [hq2]; exact K.out.1.set hkn' hkkn, K.out.2.1.other hpd _, fun a b => by
                    rw [← EdgeR.yes HX.out Hr.out HSi.out hk1 hg0 hAlo, ← HEd.out a b]
                    unfold upd
                    constructor
                    · intro h
                      split at h
                      · next e => exact .inl ⟨by rw [e.1], by rw [e.2]⟩
                      · exact .inr h
                    · rintro (⟨h1, h2⟩ | h)
                      · have h1' : a = k := by dsimp only at h1; omega
                        have h2' : b = kk := by dsimp only at h2; omega
                        rw [if_pos ⟨h1', h2'⟩]
                      · split
                        · rfl
                        · exact h⟩
                  clear K HAlo hal hk1 hg0 hAlo hq1 hq2 hkn2
                  go_wp2
                  go_roundg (jj - (i + 1))
                  case rel => exact ⟨i + 1, _, by go_num, by omega, Nat.le_refl _, HR⟩
                  case measure => omega
          · obtain rfl : i = xn := by omega
            have HR : Hid (CB g w Bs Bn Bd n S M m wr ∧ ∀ a b, m a b = true ↔ EdgeR g S M (j + 1) 0 a b) := Lib.hid ⟨K.out.1, fun a b => (K.out.2.2 a b).trans (EdgeR.next HX.out HXn.out)⟩
            clear K
            go_wp2
            go_roundw
            case rel => exact ⟨j + 1, m, by go_num, by omega, HR⟩
            case measure => simp [intOf]; omega
    · obtain rfl : j = np := by omega
      have HZ : Hid (CB g w Bs Bn Bd n S M m wr ∧ ∀ a b, m a b = true ↔ EdgeR g S M g.prods.length 0 a b) := Lib.hid ⟨K.out.1, fun a b => by rw [K.out.2 a b, N2.out]⟩
      clear K hb0
      go_upto_region 21 with fail
      exact rcircular_tail g w wr n j nn Bs Bn Bd S M m (Lib.hid ⟨HA.out.1, HA.out.2.1⟩) hn1 N1 HNN hnl (Lib.hid ⟨HT.out.1.sp, HT.out.1.np⟩) HZ _ _ (by assumption) (by assumption)
end Go.Proofs.YtodnlcbnbkkanaaGreatDoor
end
section
namespace Go.Proofs.YtodnlcbnbkkanaaGreatDoor
open Go Go.RowKit

def vast8P (p : ProdM) : Bool := decide (31 < p.right.length) || decide (200 < p.cons.size)
/-- Is a grammar more than is worked out? -/
def vast8 (g : GramM) : Bool := decide (40 < g.sorts.length) || (decide (80 < g.prods.length) || (decide (200 < g.forbid.length) || (decide (200 < g.follow.length) || g.prods.any vast8P)))

set_option maxRecDepth 100000 in
set_option maxHeartbeats 4000000 in
theorem vast8_big (g : GramM) (w : World) (h : 40 < g.sorts.length ∨ 80 < g.prods.length ∨ 200 < g.forbid.length ∨ 200 < g.follow.length) (m1 : g.sorts.length ≤ maxLen) (m2 : g.prods.length ≤ maxLen) (m3 : g.forbid.length ≤ maxLen) (m4 : g.follow.length ≤ maxLen) :
    Calls Tryz.prog 10 #[gramV g] w fun e w' => e = .returned (.bool (vast8 g)) ∧ Below w.heap.size w w' := by
  have HE : Hid (vast8 g = true) := Lib.hid (by unfold vast8; simp only [Bool.or_eq_true, decide_eq_true_eq]; rcases h with h | h | h | h <;> simp [h])
  unfold maxLen at m1 m2 m3 m4
  obtain ⟨q, hq⟩ : ∃ q, q = vast8 g := ⟨_, rfl⟩
  rw [← hq] at HE ⊢
  clear hq
  unfold gramV gramC at *
  generalize g.sorts.length = n1 at *
  generalize g.prods.length = n2 at *
  generalize g.forbid.length = n3 at *
  generalize g.follow.length = n4 at *
  by_cases h1 : 40 < n1
  · have g1 : (40 : Int) < (n1 : Int) := by omega
    go_enter Tryz.func10, Tryz.ntmps10
    go_wp2
    go_ret
    exact ⟨by rw [HE.out]; rfl, (Below.refl _ w).alloc (Nat.le_refl _) _⟩
  · have g1 : decide ((40 : Int) < (n1 : Int)) = false := by simp; omega
    by_cases h2 : 80 < n2
    · have g2 : (80 : Int) < (n2 : Int) := by omega
      clear h
      go_enter Tryz.func10, Tryz.ntmps10
      go_wp2
      go_ret
      exact ⟨by rw [HE.out]; rfl, (Below.refl _ w).alloc (Nat.le_refl _) _⟩
    · have g2 : decide ((80 : Int) < (n2 : Int)) = false := by simp; omega
      by_cases h3 : 200 < n3
      · have g3 : (200 : Int) < (n3 : Int) := by omega
        clear h
        go_enter Tryz.func10, Tryz.ntmps10
        go_wp2
        go_ret
        exact ⟨by rw [HE.out]; rfl, (Below.refl _ w).alloc (Nat.le_refl _) _⟩
      · have g3 : decide ((200 : Int) < (n3 : Int)) = false := by simp; omega
        have g4 : (200 : Int) < (n4 : Int) := by omega
        clear h
        go_enter Tryz.func10, Tryz.ntmps10
        go_wp2
        go_ret
        exact ⟨by rw [HE.out]; rfl, (Below.refl _ w).alloc (Nat.le_refl _) _⟩
set_option maxRecDepth 100000 in
set_option maxHeartbeats 4000000 in
theorem vast8_small (g : GramM) (w : World) (hg : GIn w g) (h1 : g.sorts.length ≤ 40) (h2 : g.prods.length ≤ 80) (h3 : g.forbid.length ≤ 200) (h4 : g.follow.length ≤ 200) (hp : ∀ p, p ∈ g.prods → p.right.length ≤ maxLen ∧ p.cons.size ≤ maxLen) :
    Calls Tryz.prog 10 #[gramV g] w fun e w' => e = .returned (.bool (vast8 g)) ∧ Below w.heap.size w w' := by
  have HP := Lib.hid hg.prods
  have HE : Hid (vast8 g = g.prods.any vast8P) := Lib.hid (by
    unfold vast8
    rw [decide_eq_false (by omega : ¬ 40 < g.sorts.length), decide_eq_false (by omega : ¬ 80 < g.prods.length), decide_eq_false (by omega : ¬ 200 < g.forbid.length), decide_eq_false (by omega : ¬ 200 < g.follow.length)]
    simp)
  obtain ⟨q, hq⟩ : ∃ q, q = vast8 g := ⟨_, rfl⟩
  rw [← hq] at HE ⊢
  have HQ := Lib.hid hp
  clear hq hg hp
  unfold gramV gramC at *
  obtain ⟨n1, hn1⟩ : ∃ n, n = g.sorts.length := ⟨_, rfl⟩
  obtain ⟨n2, hn2⟩ : ∃ n, n = g.prods.length := ⟨_, rfl⟩
  rw [← hn1] at h1 ⊢
  rw [← hn2] at h2 ⊢
  generalize g.forbid.length = n3 at *
  generalize g.follow.length = n4 at *
  have HN1 := Lib.hid hn1
  have HN2 := Lib.hid hn2
  have g1 : decide ((40 : Int) < (n1 : Int)) = false := by simp; omega
  have g2 : decide ((80 : Int) < (n2 : Int)) = false := by simp; omega
  have g3 : decide ((200 : Int) < (n3 : Int)) = false := by simp; omega
  have g4 : decide ((200 : Int) < (n4 : Int)) = false := by simp; omega
  clear hn1 hn2
  go_enter Tryz.func10, Tryz.ntmps10
  go_wp2
  go_loop [3] (fun i => ∃ k : Nat, i = .int .i64 k ∧ k ≤ n2 ∧ Hid (∀ (j : Nat) (x : ProdM), j < k → g.prods[j]? = some x → vast8P x = false)) (fun i => n2 - (intOf i).toNat)
  case atStart => exact ⟨0, rfl, Nat.zero_le _, Lib.hid (fun j x hj => by omega)⟩
  case round =>
    obtain ⟨k, rfl, hk, hS⟩ := hrel
    by_cases hlt : k < n2
    · obtain ⟨x, hx⟩ : ∃ x, g.prods[k]? = some x := ⟨_, List.getElem?_eq_getElem (by rw [← HN2.out]; exact hlt)⟩
      obtain ⟨b1, o1, e1, hb1, hc1, _⟩ := HP.out k x hx
      obtain ⟨hz1, hz2⟩ := HQ.out x (List.mem_of_getElem? hx)
      obtain ⟨c10, c11, c12, _, _, _, _⟩ := Prod_at hc1
      have E1 := Lib.hid e1
      clear hc1 e1
      have f1 : (k : Int) < (n2 : Int) := by omega
      unfold maxLen at hz1 hz2
      rw [E1.out]
      have HV : Hid (vast8P x = (decide (31 < x.right.length) || decide (200 < x.cons.size))) := Lib.hid rfl
      have HQ2 : Hid (vast8P x = true → q = true) := Lib.hid (fun h => by rw [HE.out, any_yes hx h])
      have HX := Lib.hid hx
      clear hx
      generalize x.right.length = m at *
      by_cases hb : 31 < m
      · have HE3 : Hid (q = true) := Lib.hid (HQ2.out (by rw [HV.out]; simp [hb]))
        have f2 : (31 : Int) < (m : Int) := by omega
        clear HP HQ hS E1 HX HV HQ2 HE
        go_wp2
        go_ret
        exact ⟨by rw [HE3.out]; rfl, (Below.refl _ w).alloc (Nat.le_refl _) _⟩
      · have f2 : decide ((31 : Int) < (m : Int)) = false := by simp; omega
        by_cases hb2 : 200 < x.cons.size
        · have HE3 : Hid (q = true) := Lib.hid (HQ2.out (by rw [HV.out]; simp [hb2]))
          have f3 : (200 : Int) < (x.cons.size : Int) := by omega
          clear HP HQ hS E1 HX HV HQ2 HE
          go_wp2
          go_ret
          exact ⟨by rw [HE3.out]; rfl, (Below.refl _ w).alloc (Nat.le_refl _) _⟩
        · have HE3 : Hid (vast8P x = false) := Lib.hid (by rw [HV.out, decide_eq_false hb, decide_eq_false hb2]; rfl)
          have f3 : decide ((200 : Int) < (x.cons.size : Int)) = false := by simp; omega
          clear HV HQ2
          go_wp2
          go_round
          case rel => exact ⟨k + 1, by go_num, by omega, Lib.hid (fun j y hj hy => by
            by_cases e : j = k
            · subst e; rw [HX.out] at hy; cases hy; exact HE3.out
            · exact hS.out j y (by omega) hy)⟩
          case measure => simp [intOf]; omega
    · obtain rfl : k = n2 := by omega
      have HE3 : Hid (q = false) := Lib.hid (by
        rw [HE.out]
        exact any_no (fun i x hx => hS.out i x (by have := (List.getElem?_eq_some_iff.1 hx).1; have := HN2.out; omega) hx))
      clear hS HP HE
      go_wp2
      go_ret
      exact ⟨by rw [HE3.out]; rfl, (Below.refl _ w).alloc (Nat.le_refl _) _⟩
/-- What a grammar that is not too vast is bound by. -/
theorem AGram.fit8 {w : World} {g : GramM} (h : AGram w g) (hv : vast8 g = false) : FitG g := by
  unfold vast8 at hv
  simp only [Bool.or_eq_false_iff, decide_eq_false_iff_not, List.any_eq_false] at hv
  obtain ⟨h1, h2, h3, h4, h6⟩ := hv
  refine ⟨⟨by omega, by omega, fun x hx => ?_, by omega, by omega, fun f hf => (h.forb f hf).at_, fun s hs => ?_⟩, h.forb, h.fol⟩
  · have := h6 x hx
    unfold vast8P at this
    simp at this
    omega
  · have := h.names s hs
    unfold maxLen at this
    omega
theorem vast8_any (g : GramM) (w : World) (h : AGram w g) : Calls Tryz.prog 10 #[gramV g] w fun e w' => e = .returned (.bool (vast8 g)) ∧ Below w.heap.size w w' := by
  by_cases hb : 40 < g.sorts.length ∨ 80 < g.prods.length ∨ 200 < g.forbid.length ∨ 200 < g.follow.length
  · exact vast8_big g w hb (Nat.le_trans h.sl h.sc) (Nat.le_trans h.pl h.pc) (Nat.le_trans h.fl h.fc) (Nat.le_trans h.wl h.wc)
  · exact vast8_small g w h.inn (by omega) (by omega) (by omega) (by omega) (fun p hp => ⟨Nat.le_trans (h.prods p hp).len (h.prods p hp).cap, (h.prods p hp).cons⟩)
end Go.Proofs.YtodnlcbnbkkanaaGreatDoor
end
