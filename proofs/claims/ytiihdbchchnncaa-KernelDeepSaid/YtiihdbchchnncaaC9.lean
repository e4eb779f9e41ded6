import Derived.Test.YtiihdbchchnncaaC7
import Derived.Test.YtiihdbchchnncaaC8
import Derived.Test.YtiihdbchchnncaaO
import Derived.Test.YtiihdbchchnncaaX
import Derived.Test.YtiihdbchchnncaaX
namespace Go.Proofs.Ytiihdbchchnncaa
open Go Go.RowKit Go.Maps Go.WideMaps Go.Vals Go.Vals

/-- May a name be? -/
def nameB (s : ByteArray) : Bool := decide (1 ≤ s.size) && decide (s.size ≤ 1000)

set_option maxHeartbeats 400000 in
theorem f77_any (s : ByteArray) (w : World) : Calls Try.prog 77 #[.string s] w fun e w' => e = .returned (.bool (nameB s)) ∧ Below w.heap.size w w' := by
  unfold nameB
  by_cases h : 1 ≤ s.size
  · have h1 : decide (1 ≤ s.size) = true := by simpa using h
    have i1 : (1 : Int) ≤ (s.size : Int) := by omega
    rw [h1, Bool.true_and]
    by_cases h2 : s.size ≤ 1000
    · have h3 : decide (s.size ≤ 1000) = true := by simpa using h2
      have i2 : (s.size : Int) ≤ 1000 := by omega
      rw [h3]
      go_enter Try.func77, Try.ntmps77
      go_wp2
      go_ret
      exact ⟨rfl, Below.refl _ _⟩
    · have h3 : decide (s.size ≤ 1000) = false := by simpa using h2
      have i2 : ¬ (s.size : Int) ≤ 1000 := by omega
      rw [h3]
      go_enter Try.func77, Try.ntmps77
      go_wp2
      go_ret
      exact ⟨rfl, Below.refl _ _⟩
  · have h1 : decide (1 ≤ s.size) = false := by simpa using h
    have i1 : ¬ (1 : Int) ≤ (s.size : Int) := by omega
    rw [h1, Bool.false_and]
    go_enter Try.func77, Try.ntmps77
    go_wp2
    go_ret
    exact ⟨rfl, Below.refl _ _⟩

/-- What a grammar that came in is bound by. -/
structure FitG (g : GramM) : Prop where
  fit : Fit g
  forb : ∀ f, f ∈ g.forbid → FitF f
  fol : ∀ f, f ∈ g.follow → I64 f.sort

/-- May what is forbidden be? -/
def forbidsB (g : GramM) : Bool := onceA forEq [] g.forbid && g.forbid.all (forbidB g)

set_option maxRecDepth 100000 in
set_option maxHeartbeats 1000000 in
theorem forbidsMay_any (g : GramM) (w : World) (hg : GIn w g) (hf : FitG g) : Calls Try.prog 62 #[gramV g] w fun e w' => e = .returned (.bool (forbidsB g)) ∧ Below w.heap.size w w' := by
  have hB1 : Below w.heap.size w (w.alloc (.cells (gramC g) 27)) := (Below.refl _ _).alloc (Nat.le_refl _) _
  have HO := Lib.hid (onceFor_any g.fa g.fc g.forbid _ (hg.forbid.belowN hB1) hf.fit.forbid hf.forb)
  have HA := Lib.hid (fun W (hW : Below (w.alloc (.cells (gramC g) 27)).heap.size (w.alloc (.cells (gramC g) 27)) W) => allFor_any g.fa g.fc g.forbid (forbidB g) 83 #[.pointer (some ⟨w.heap.size, 0, none⟩)] (fun _ _ => by kernel_rfl) W ((hg.forbid.belowN hB1).belowN hW) hf.fit.forbid (fun f hF V hV =>
    f83_any f g w.heap.size V ((hg.below hB1).below (hW.trans (hV.mono hW.size))) hf.fit (hf.forb f hF) ((Blk.new w 27 (gramC g)).below (hW.trans (hV.mono hW.size)) (by simp))))
  have HB := Lib.hid hB1
  have HR : Hid (forbidsB g = (onceA forEq [] g.forbid && g.forbid.all (forbidB g))) := Lib.hid rfl
  have HK := Lib.hid (fun W (hW : Below (w.alloc (.cells (gramC g) 27)).heap.size (w.alloc (.cells (gramC g) 27)) W) => ((Blk.new w 27 (gramC g)).below hW (by simp)).gram)
  clear hg hf hB1
  generalize g.forbid.all (forbidB g) = r at *
  generalize onceA forEq [] g.forbid = o at *
  generalize forbidsB g = q at *
  unfold gramV gramC at *
  cases o with
  | false =>
    have HR2 : Hid (q = false) := Lib.hid (by rw [HR.out]; rfl)
    clear HR HA HK
    go_enter Try.func62, Try.ntmps62
    go_wp2_with fail
    refine HO.out.mono ?_
    rintro e w3 ⟨rfl, hB3⟩
    have HB3 := Lib.hid (HB.out.trans (hB3.mono HB.out.size))
    clear hB3
    go_wp2
    go_ret
    exact ⟨by rw [HR2.out]; try rfl, HB3.out⟩
  | true =>
    have HR2 : Hid (q = r) := Lib.hid (by rw [HR.out]; rfl)
    clear HR
    go_enter Try.func62, Try.ntmps62
    go_wp2_with fail
    refine HO.out.mono ?_
    rintro e w3 ⟨rfl, hB3⟩
    have HA3 := Lib.hid (HA.out _ hB3)
    obtain ⟨_, _, _, c3, _⟩ := HK.out _ hB3
    have HB3 := Lib.hid (HB.out.trans (hB3.mono HB.out.size))
    have hlt : w.heap.size < w3.heap.size := by have := hB3.size; simp at this; omega
    clear hB3 HA HK HO
    go_wp2_with fail
    refine HA3.out.mono ?_
    rintro e w4 ⟨rfl, hB4⟩
    have HB4 := Lib.hid (HB3.out.trans (hB4.mono HB3.out.size))
    clear hB4 c3
    go_wp2
    go_ret
    exact ⟨by rw [HR2.out]; try rfl, HB4.out⟩

/-- May the sorts' names be? -/
def sortsB' (g : GramM) : Bool := decide (1 ≤ g.sorts.length) && (decide (g.sorts.length ≤ 1000) && (g.sorts.all nameB && onceA strEq [] g.sorts))

set_option maxRecDepth 100000 in
set_option maxHeartbeats 2000000 in
theorem sortsMay_any (g : GramM) (w : World) (hg : GIn w g) (hf : Fit g) : Calls Try.prog 59 #[gramV g] w fun e w' => e = .returned (.bool (sortsB' g)) ∧ Below w.heap.size w w' := by
  have hB1 : Below w.heap.size w (w.alloc (.cells (gramC g) 27)) := (Below.refl _ _).alloc (Nat.le_refl _) _
  have HA := Lib.hid (fun W (hW : Below w.heap.size w W) => allStr_any g.sa g.sc g.sorts nameB 77 #[] (fun _ _ => by kernel_rfl) W (hg.sorts.belowN hW) hf.sorts (fun s hs V hV => f77_any s V))
  have HN := Lib.hid (fun W (hW : Below w.heap.size w W) => byName_any g.sa g.sc g.sorts hf.sorts hf.names W (hg.sorts.belowN hW))
  have HO : Hid (decide (size (nm 0 g.sorts) = g.sorts.length) = onceA strEq [] g.sorts) := Lib.hid (nm_size g.sorts hf.names 0).2
  have HB := Lib.hid hB1
  have HR : Hid (sortsB' g = (decide (1 ≤ g.sorts.length) && (decide (g.sorts.length ≤ 1000) && (g.sorts.all nameB && onceA strEq [] g.sorts)))) := Lib.hid rfl
  have HK := Lib.hid (fun W (hW : Below (w.alloc (.cells (gramC g) 27)).heap.size (w.alloc (.cells (gramC g) 27)) W) => ((Blk.new w 27 (gramC g)).below hW (by simp)).gram)
  clear hg hf hB1
  generalize g.sorts.all nameB = ra at *
  generalize onceA strEq [] g.sorts = o at *
  generalize sortsB' g = q at *
  unfold gramV gramC at *
  generalize nm 0 g.sorts = D at *
  generalize g.sorts.length = n at *
  obtain ⟨W0, hW0⟩ : ∃ W0, W0 = w.alloc (.cells #[.slice g.sa n g.sc, .slice g.pa g.prods.length g.pc, .int .i64 g.start, .slice g.fa g.forbid.length g.fc, .slice g.wa g.follow.length g.wc] 27) := ⟨_, rfl⟩
  have hN : ∀ W : World, Below W.heap.size W W := fun W => Below.refl _ W
  by_cases h1 : 1 ≤ n
  · have i1 : decide ((1 : Int) ≤ ((n : Nat) : Int)) = true := by simp; omega
    by_cases h2 : n ≤ 1000
    · have i2 : decide (((n : Nat) : Int) ≤ 1000) = true := by simp; omega
      have HR2 : Hid (q = (ra && o)) := Lib.hid (by rw [HR.out]; simp [h1, h2])
      clear HR h1 h2
      cases ra with
      | false =>
        have HR3 : Hid (q = false) := Lib.hid (by rw [HR2.out]; rfl)
        clear HR2 HN HO
        go_enter Try.func59, Try.ntmps59
        go_wp2_with fail
        rw [← hW0] at HB HK ⊢
        clear hW0
        refine wp_region_vals0 (N := fun W W' => Below W.heap.size W W') (S := fun W => Below W0.heap.size W0 W)
          [.pointer (some ⟨w.heap.size, 0, none⟩), .slice g.sa n g.sc, .int .i64 (n : Nat), .bool true, .bool true, .pointer (some ⟨w.heap.size, 0, none⟩), .slice g.sa n g.sc, .int .i64 (n : Nat), .bool true, .bool true, .bool true, .pointer (some ⟨w.heap.size, 0, none⟩), .slice g.sa n g.sc, .bool false, .bool false, .bool false, undef, undef, undef, undef, undef, undef, undef, undef, .bool false, .bool false]
          #[.agg #[.slice g.sa n g.sc, .slice g.pa g.prods.length g.pc, .int .i64 g.start, .slice g.fa g.forbid.length g.fc, .slice g.wa g.follow.length g.wc], .pointer (some ⟨w.heap.size, 0, none⟩), .bool false, .pointer (some ⟨w.heap.size, 0, none⟩), .slice g.sa n g.sc, .int .i64 (n : Nat), .bool true, .bool true, .pointer (some ⟨w.heap.size, 0, none⟩), .slice g.sa n g.sc, .int .i64 (n : Nat), .bool true, .bool true, .bool true, .pointer (some ⟨w.heap.size, 0, none⟩), .slice g.sa n g.sc, .bool false, .bool false, .bool false, undef, undef, undef, undef, undef, undef, undef, undef, .bool false]
          rfl (by kernel_rfl) (by kernel_rfl) (by kernel_rfl) hN (Below.refl _ W0).drew (fun W W' h hB => h.trans (hB.mono h.size)) ?_ ?_
        · refine Each.val 3 (.pointer (some ⟨w.heap.size, 0, none⟩)) (by kernel_rfl) (by kernel_rfl) (by kernel_rfl) hN (fun W hS _ => fa27_0 rfl (by kernel_rfl)) ?_
          refine Each.val 4 (.slice g.sa n g.sc) (by kernel_rfl) (by kernel_rfl) (by kernel_rfl) hN (fun W hS _ => ld22 rfl (by kernel_rfl) ((HK.out W hS).1)) ?_
          refine Each.val 5 (.int .i64 (n : Nat)) (by kernel_rfl) (by kernel_rfl) (by kernel_rfl) hN (fun W hS _ => len22 (a := g.sa) (c := g.sc) rfl (by kernel_rfl)) ?_
          refine Each.val 6 (.bool true) (by kernel_rfl) (by kernel_rfl) (by kernel_rfl) hN (fun W hS _ => ex_leq rfl (by kernel_rfl) (by kernel_rfl) (i1)) ?_
          refine Each.val 7 (.bool true) (by kernel_rfl) (by kernel_rfl) (by kernel_rfl) hN (fun _ _ _ => by kernel_rfl) ?_
          refine Each.val 8 (.pointer (some ⟨w.heap.size, 0, none⟩)) (by kernel_rfl) (by kernel_rfl) (by kernel_rfl) hN (fun W hS _ => fa27_0 rfl (by kernel_rfl)) ?_
          refine Each.val 9 (.slice g.sa n g.sc) (by kernel_rfl) (by kernel_rfl) (by kernel_rfl) hN (fun W hS _ => ld22 rfl (by kernel_rfl) ((HK.out W hS).1)) ?_
          refine Each.val 10 (.int .i64 (n : Nat)) (by kernel_rfl) (by kernel_rfl) (by kernel_rfl) hN (fun W hS _ => len22 (a := g.sa) (c := g.sc) rfl (by kernel_rfl)) ?_
          refine Each.val 11 (.bool true) (by kernel_rfl) (by kernel_rfl) (by kernel_rfl) hN (fun W hS _ => ex_leq rfl (by kernel_rfl) (by kernel_rfl) (i2)) ?_
          refine Each.val 12 (.bool true) (by kernel_rfl) (by kernel_rfl) (by kernel_rfl) hN (fun _ _ _ => by kernel_rfl) ?_
          refine Each.val 13 (.bool true) (by kernel_rfl) (by kernel_rfl) (by kernel_rfl) hN (fun _ _ _ => by kernel_rfl) ?_
          refine Each.val 14 (.pointer (some ⟨w.heap.size, 0, none⟩)) (by kernel_rfl) (by kernel_rfl) (by kernel_rfl) hN (fun W hS _ => fa27_0 rfl (by kernel_rfl)) ?_
          refine Each.val 15 (.slice g.sa n g.sc) (by kernel_rfl) (by kernel_rfl) (by kernel_rfl) hN (fun W hS _ => ld22 rfl (by kernel_rfl) ((HK.out W hS).1)) ?_
          refine Each.call 16 (.bool false) 76 #[.slice g.sa n g.sc, .func (.func 77) #[] #[]] (by kernel_rfl) (by kernel_rfl) (by kernel_rfl) (fun _ _ => by kernel_rfl) (fun W hS => HA.out W (HB.out.trans (hS.mono HB.out.size))) ?_
          refine Each.val 17 (.bool false) (by kernel_rfl) (by kernel_rfl) (by kernel_rfl) hN (fun _ _ _ => by kernel_rfl) ?_
          refine Each.val 18 (.bool false) (by kernel_rfl) (by kernel_rfl) (by kernel_rfl) hN (fun _ _ _ => by kernel_rfl) ?_
          refine Each.off 19 (by kernel_rfl) (by kernel_rfl) (by kernel_rfl) ?_
          refine Each.off 20 (by kernel_rfl) (by kernel_rfl) (by kernel_rfl) ?_
          refine Each.off 21 (by kernel_rfl) (by kernel_rfl) (by kernel_rfl) ?_
          refine Each.off 22 (by kernel_rfl) (by kernel_rfl) (by kernel_rfl) ?_
          refine Each.off 23 (by kernel_rfl) (by kernel_rfl) (by kernel_rfl) ?_
          refine Each.off 24 (by kernel_rfl) (by kernel_rfl) (by kernel_rfl) ?_
          refine Each.off 25 (by kernel_rfl) (by kernel_rfl) (by kernel_rfl) ?_
          refine Each.off 26 (by kernel_rfl) (by kernel_rfl) (by kernel_rfl) ?_
          refine Each.val 27 (.bool false) (by kernel_rfl) (by kernel_rfl) (by kernel_rfl) hN (fun _ _ _ => by kernel_rfl) ?_
          refine Each.val 2 (.bool false) (by kernel_rfl) (by kernel_rfl) (by kernel_rfl) hN (fun _ _ _ => by kernel_rfl) ?_
          exact trivial
        · intro w' hS
          have HB3 := Lib.hid (HB.out.trans (hS.mono HB.out.size))
          clear hS hN
          go_wp2
          go_ret
          exact ⟨by rw [HR3.out]; try rfl, HB3.out⟩
      | true =>
        have HR3 : Hid (q = o) := Lib.hid (by rw [HR2.out]; rfl)
        clear HR2 hN
        go_enter Try.func59, Try.ntmps59
        go_wp2_with fail
        rw [← hW0] at HB HK ⊢
        have c0 := (HK.out W0 (Below.refl _ _)).1
        have hl0 : w.heap.size < W0.heap.size := by rw [hW0]; simp
        clear hW0
        go_region_held (fun W => W.cell? ⟨w.heap.size, 0, none⟩ = some (.slice g.sa n g.sc)) (go_keep)
          (first
            | (go_at_call 76; (with_reducible refine (HA.out _ HB.out.drew).mono ?_); rintro e w3 ⟨rfl, hB3⟩; have hB3' : Below W0.heap.size W0 w3 := ⟨hB3.os, hB3.tape, hB3.output, hB3.size, hB3.block⟩; have e0 := (HK.out w3 hB3').1; have HB3 := Lib.hid hB3'; clear hB3 hB3')
            | (go_at_call 41; (with_reducible refine (HN.out _ (HB.out.trans (HB3.out.mono HB.out.size))).mono ?_); rintro e w4 ⟨rfl, hown, hB4⟩; have hB4' := HB3.out.trans (hB4.mono HB3.out.size); have e1 := (HK.out w4 hB4').1; have hlen := fun ty => hown.len Try.underlying89 ty; have HB4 := Lib.hid (HB.out.trans (hB4'.mono HB.out.size)); clear hB4 hB4' hown))
        go_wp2
        go_ret
        exact ⟨by
          rw [HR3.out, ← HO.out]
          show Ending.returned (.bool _) = Ending.returned (.bool _)
          rw [Ending.returned.injEq, Value.bool.injEq, Bool.eq_iff_iff]
          simp
          exact Int.ofNat_inj, HB4.out⟩
    · have i2 : decide (((n : Nat) : Int) ≤ 1000) = false := by simp; omega
      have HR3 : Hid (q = false) := Lib.hid (by rw [HR.out]; simp [h1, h2])
      clear HR h1 h2 HN HO HA
      go_enter Try.func59, Try.ntmps59
      go_wp2_with fail
      rw [← hW0] at HB HK ⊢
      clear hW0
      refine wp_region_vals0 (N := fun W W' => Below W.heap.size W W') (S := fun W => Below W0.heap.size W0 W)
        [.pointer (some ⟨w.heap.size, 0, none⟩), .slice g.sa n g.sc, .int .i64 (n : Nat), .bool true, .bool true, .pointer (some ⟨w.heap.size, 0, none⟩), .slice g.sa n g.sc, .int .i64 (n : Nat), .bool false, .bool false, .bool false, undef, undef, undef, .bool false, .bool false, undef, undef, undef, undef, undef, undef, undef, undef, .bool false, .bool false]
        #[.agg #[.slice g.sa n g.sc, .slice g.pa g.prods.length g.pc, .int .i64 g.start, .slice g.fa g.forbid.length g.fc, .slice g.wa g.follow.length g.wc], .pointer (some ⟨w.heap.size, 0, none⟩), .bool false, .pointer (some ⟨w.heap.size, 0, none⟩), .slice g.sa n g.sc, .int .i64 (n : Nat), .bool true, .bool true, .pointer (some ⟨w.heap.size, 0, none⟩), .slice g.sa n g.sc, .int .i64 (n : Nat), .bool false, .bool false, .bool false, undef, undef, undef, .bool false, .bool false, undef, undef, undef, undef, undef, undef, undef, undef, .bool false]
        rfl (by kernel_rfl) (by kernel_rfl) (by kernel_rfl) hN (Below.refl _ W0).drew (fun W W' h hB => h.trans (hB.mono h.size)) ?_ ?_
      · refine Each.val 3 (.pointer (some ⟨w.heap.size, 0, none⟩)) (by kernel_rfl) (by kernel_rfl) (by kernel_rfl) hN (fun W hS _ => fa27_0 rfl (by kernel_rfl)) ?_
        refine Each.val 4 (.slice g.sa n g.sc) (by kernel_rfl) (by kernel_rfl) (by kernel_rfl) hN (fun W hS _ => ld22 rfl (by kernel_rfl) ((HK.out W hS).1)) ?_
        refine Each.val 5 (.int .i64 (n : Nat)) (by kernel_rfl) (by kernel_rfl) (by kernel_rfl) hN (fun W hS _ => len22 (a := g.sa) (c := g.sc) rfl (by kernel_rfl)) ?_
        refine Each.val 6 (.bool true) (by kernel_rfl) (by kernel_rfl) (by kernel_rfl) hN (fun W hS _ => ex_leq rfl (by kernel_rfl) (by kernel_rfl) (i1)) ?_
        refine Each.val 7 (.bool true) (by kernel_rfl) (by kernel_rfl) (by kernel_rfl) hN (fun _ _ _ => by kernel_rfl) ?_
        refine Each.val 8 (.pointer (some ⟨w.heap.size, 0, none⟩)) (by kernel_rfl) (by kernel_rfl) (by kernel_rfl) hN (fun W hS _ => fa27_0 rfl (by kernel_rfl)) ?_
        refine Each.val 9 (.slice g.sa n g.sc) (by kernel_rfl) (by kernel_rfl) (by kernel_rfl) hN (fun W hS _ => ld22 rfl (by kernel_rfl) ((HK.out W hS).1)) ?_
        refine Each.val 10 (.int .i64 (n : Nat)) (by kernel_rfl) (by kernel_rfl) (by kernel_rfl) hN (fun W hS _ => len22 (a := g.sa) (c := g.sc) rfl (by kernel_rfl)) ?_
        refine Each.val 11 (.bool false) (by kernel_rfl) (by kernel_rfl) (by kernel_rfl) hN (fun W hS _ => ex_leq rfl (by kernel_rfl) (by kernel_rfl) (i2)) ?_
        refine Each.val 12 (.bool false) (by kernel_rfl) (by kernel_rfl) (by kernel_rfl) hN (fun _ _ _ => by kernel_rfl) ?_
        refine Each.val 13 (.bool false) (by kernel_rfl) (by kernel_rfl) (by kernel_rfl) hN (fun _ _ _ => by kernel_rfl) ?_
        refine Each.off 14 (by kernel_rfl) (by kernel_rfl) (by kernel_rfl) ?_
        refine Each.off 15 (by kernel_rfl) (by kernel_rfl) (by kernel_rfl) ?_
        refine Each.off 16 (by kernel_rfl) (by kernel_rfl) (by kernel_rfl) ?_
        refine Each.val 17 (.bool false) (by kernel_rfl) (by kernel_rfl) (by kernel_rfl) hN (fun _ _ _ => by kernel_rfl) ?_
        refine Each.val 18 (.bool false) (by kernel_rfl) (by kernel_rfl) (by kernel_rfl) hN (fun _ _ _ => by kernel_rfl) ?_
        refine Each.off 19 (by kernel_rfl) (by kernel_rfl) (by kernel_rfl) ?_
        refine Each.off 20 (by kernel_rfl) (by kernel_rfl) (by kernel_rfl) ?_
        refine Each.off 21 (by kernel_rfl) (by kernel_rfl) (by kernel_rfl) ?_
        refine Each.off 22 (by kernel_rfl) (by kernel_rfl) (by kernel_rfl) ?_
        refine Each.off 23 (by kernel_rfl) (by kernel_rfl) (by kernel_rfl) ?_
        refine Each.off 24 (by kernel_rfl) (by kernel_rfl) (by kernel_rfl) ?_
        refine Each.off 25 (by kernel_rfl) (by kernel_rfl) (by kernel_rfl) ?_
        refine Each.off 26 (by kernel_rfl) (by kernel_rfl) (by kernel_rfl) ?_
        refine Each.val 27 (.bool false) (by kernel_rfl) (by kernel_rfl) (by kernel_rfl) hN (fun _ _ _ => by kernel_rfl) ?_
        refine Each.val 2 (.bool false) (by kernel_rfl) (by kernel_rfl) (by kernel_rfl) hN (fun _ _ _ => by kernel_rfl) ?_
        exact trivial
      · intro w' hS
        have HB3 := Lib.hid (HB.out.trans (hS.mono HB.out.size))
        clear hS hN
        go_wp2
        go_ret
        exact ⟨by rw [HR3.out]; try rfl, HB3.out⟩
  · have i1 : decide ((1 : Int) ≤ ((n : Nat) : Int)) = false := by simp; omega
    have HR3 : Hid (q = false) := Lib.hid (by rw [HR.out]; simp [h1])
    clear HR h1 HN HO HA
    go_enter Try.func59, Try.ntmps59
    go_wp2_with fail
    rw [← hW0] at HB HK ⊢
    clear hW0
    refine wp_region_vals0 (N := fun W W' => Below W.heap.size W W') (S := fun W => Below W0.heap.size W0 W)
      [.pointer (some ⟨w.heap.size, 0, none⟩), .slice g.sa n g.sc, .int .i64 (n : Nat), .bool false, .bool false, undef, undef, undef, undef, .bool false, .bool false, undef, undef, undef, .bool false, .bool false, undef, undef, undef, undef, undef, undef, undef, undef, .bool false, .bool false]
      #[.agg #[.slice g.sa n g.sc, .slice g.pa g.prods.length g.pc, .int .i64 g.start, .slice g.fa g.forbid.length g.fc, .slice g.wa g.follow.length g.wc], .pointer (some ⟨w.heap.size, 0, none⟩), .bool false, .pointer (some ⟨w.heap.size, 0, none⟩), .slice g.sa n g.sc, .int .i64 (n : Nat), .bool false, .bool false, undef, undef, undef, undef, .bool false, .bool false, undef, undef, undef, .bool false, .bool false, undef, undef, undef, undef, undef, undef, undef, undef, .bool false]
      rfl (by kernel_rfl) (by kernel_rfl) (by kernel_rfl) hN (Below.refl _ W0).drew (fun W W' h hB => h.trans (hB.mono h.size)) ?_ ?_
    · refine Each.val 3 (.pointer (some ⟨w.heap.size, 0, none⟩)) (by kernel_rfl) (by kernel_rfl) (by kernel_rfl) hN (fun W hS _ => fa27_0 rfl (by kernel_rfl)) ?_
      refine Each.val 4 (.slice g.sa n g.sc) (by kernel_rfl) (by kernel_rfl) (by kernel_rfl) hN (fun W hS _ => ld22 rfl (by kernel_rfl) ((HK.out W hS).1)) ?_
      refine Each.val 5 (.int .i64 (n : Nat)) (by kernel_rfl) (by kernel_rfl) (by kernel_rfl) hN (fun W hS _ => len22 (a := g.sa) (c := g.sc) rfl (by kernel_rfl)) ?_
      refine Each.val 6 (.bool false) (by kernel_rfl) (by kernel_rfl) (by kernel_rfl) hN (fun W hS _ => ex_leq rfl (by kernel_rfl) (by kernel_rfl) (i1)) ?_
      refine Each.val 7 (.bool false) (by kernel_rfl) (by kernel_rfl) (by kernel_rfl) hN (fun _ _ _ => by kernel_rfl) ?_
      refine Each.off 8 (by kernel_rfl) (by kernel_rfl) (by kernel_rfl) ?_
      refine Each.off 9 (by kernel_rfl) (by kernel_rfl) (by kernel_rfl) ?_
      refine Each.off 10 (by kernel_rfl) (by kernel_rfl) (by kernel_rfl) ?_
      refine Each.off 11 (by kernel_rfl) (by kernel_rfl) (by kernel_rfl) ?_
      refine Each.val 12 (.bool false) (by kernel_rfl) (by kernel_rfl) (by kernel_rfl) hN (fun _ _ _ => by kernel_rfl) ?_
      refine Each.val 13 (.bool false) (by kernel_rfl) (by kernel_rfl) (by kernel_rfl) hN (fun _ _ _ => by kernel_rfl) ?_
      refine Each.off 14 (by kernel_rfl) (by kernel_rfl) (by kernel_rfl) ?_
      refine Each.off 15 (by kernel_rfl) (by kernel_rfl) (by kernel_rfl) ?_
      refine Each.off 16 (by kernel_rfl) (by kernel_rfl) (by kernel_rfl) ?_
      refine Each.val 17 (.bool false) (by kernel_rfl) (by kernel_rfl) (by kernel_rfl) hN (fun _ _ _ => by kernel_rfl) ?_
      refine Each.val 18 (.bool false) (by kernel_rfl) (by kernel_rfl) (by kernel_rfl) hN (fun _ _ _ => by kernel_rfl) ?_
      refine Each.off 19 (by kernel_rfl) (by kernel_rfl) (by kernel_rfl) ?_
      refine Each.off 20 (by kernel_rfl) (by kernel_rfl) (by kernel_rfl) ?_
      refine Each.off 21 (by kernel_rfl) (by kernel_rfl) (by kernel_rfl) ?_
      refine Each.off 22 (by kernel_rfl) (by kernel_rfl) (by kernel_rfl) ?_
      refine Each.off 23 (by kernel_rfl) (by kernel_rfl) (by kernel_rfl) ?_
      refine Each.off 24 (by kernel_rfl) (by kernel_rfl) (by kernel_rfl) ?_
      refine Each.off 25 (by kernel_rfl) (by kernel_rfl) (by kernel_rfl) ?_
      refine Each.off 26 (by kernel_rfl) (by kernel_rfl) (by kernel_rfl) ?_
      refine Each.val 27 (.bool false) (by kernel_rfl) (by kernel_rfl) (by kernel_rfl) hN (fun _ _ _ => by kernel_rfl) ?_
      refine Each.val 2 (.bool false) (by kernel_rfl) (by kernel_rfl) (by kernel_rfl) hN (fun _ _ _ => by kernel_rfl) ?_
      exact trivial
    · intro w' hS
      have HB3 := Lib.hid (HB.out.trans (hS.mono HB.out.size))
      clear hS hN
      go_wp2
      go_ret
      exact ⟨by rw [HR3.out]; try rfl, HB3.out⟩
end Go.Proofs.Ytiihdbchchnncaa
