import Derived.Deep.RegionHeld2
import Derived.Test.YtiihdbchchnncaaM1
import Derived.Test.YtiihdbchchnncaaM2
import Derived.Test.YtiihdbchchnncaaM3
import Derived.Test.YtiihdbchchnncaaM4
import Derived.Test.YtiihdbchchnncaaM5
import Derived.Test.YtiihdbchchnncaaM6
section
namespace Go.Proofs.Ytiihdbchchnncaa
open Go Go.RowKit Go.Vals

/-- A tree's production. -/
def prodOf : TreeM → Int
  | .node p _ _ _ _ => p
/-- Is a tree one of the symbol? -/
def ofTB (g : GramM) (r : TreeM → Bool) (s : SymM) : TreeM → Bool
  | .node p b ka kc kids => if s.kind = 0 then p == -1 && kids.length == 0 && s.set.getLsbD b.toNat else r (.node p b ka kc kids) && (match g.prods[p.toNat]? with | some x => x.left == s.sort | none => false)

set_option maxRecDepth 100000 in
set_option maxHeartbeats 2000000 in
theorem isTreeOf_any (g : GramM) (s : SymM) (k : TreeM) (r : TreeM → Bool) (d : Nat) (Bg : Nat) (w : World) (hbg : Blk w Bg 27 (gramC g)) (hg : GIn w g) (hfit : TFit (d + 1) k)
    (hcall : s.kind ≠ 0 → ∀ W, Below w.heap.size w W → Calls Try.prog 50 #[.pointer (some ⟨Bg, 0, none⟩), treeV k] W fun e w' => e = .returned (.bool (r k)) ∧ Below W.heap.size W w')
    (hr : r k = true → ∃ m : Nat, prodOf k = m ∧ m < g.prods.length) :
    Calls Try.prog 68 #[.pointer (some ⟨Bg, 0, none⟩), symV s, treeV k] w fun e w' => e = .returned (.bool (ofTB g r s k)) ∧ Below w.heap.size w w' := by
  obtain ⟨kp, kb, ka, kc, kids⟩ := k
  obtain ⟨hlen, ⟨n, rfl, hn⟩, _⟩ := hfit
  obtain ⟨sk, ss, so⟩ := s
  have e0 : ofTB g r ⟨sk, ss, so⟩ (.node kp (n : Int) ka kc kids) = if sk = 0 then kp == -1 && kids.length == 0 && ss.getLsbD n else r (.node kp (n : Int) ka kc kids) && (match g.prods[kp.toNat]? with | some x => x.left == so | none => false) := by
    unfold ofTB; simp only [Int.toNat_natCast]
  have HE := Lib.hid e0
  clear e0
  obtain ⟨W0, hW0⟩ : ∃ W0, W0 = (w.alloc (.cells (symC ⟨sk, ss, so⟩) 68)).alloc (.cells (treeC (.node kp (n : Int) ka kc kids)) 51) := ⟨_, rfl⟩
  have hB1 : Below w.heap.size w W0 := by rw [hW0]; exact ((Below.refl _ _).alloc (Nat.le_refl _) _).alloc (by simp) _
  have hb1 : Blk W0 w.heap.size 68 (symC ⟨sk, ss, so⟩) := by rw [hW0]; exact (Blk.new w 68 _).alloc _
  have hb2 : Blk W0 (w.heap.size + 1) 51 (treeC (.node kp (n : Int) ka kc kids)) := by
    have h := Blk.new (w.alloc (.cells (symC ⟨sk, ss, so⟩) 68)) 51 (treeC (.node kp (n : Int) ka kc kids))
    rw [World.size_alloc] at h
    rw [hW0]; exact h
  have HB := Lib.hid hB1
  have HHas := Lib.hid (fun W => has_any ss n hn W)
  by_cases hk : sk = 0
  · subst hk
    have HR3 : Hid (ofTB g r ⟨0, ss, so⟩ (.node kp (n : Int) ka kc kids) = (kp == -1 && kids.length == 0 && ss.getLsbD n)) := Lib.hid (by rw [HE.out, if_pos rfl])
    have HW := Lib.hid hW0
    clear HE hcall hr hbg hg hW0 hB1 hb1 hb2
    have HQ : Hid (ss.getLsbD n = ss.getLsbD n) := Lib.hid rfl
    generalize ofTB g r _ _ = q at *
    generalize ss.getLsbD n = h at *
    unfold vset at HHas
    unfold symV treeV symC treeC at *
    cases h1 : (kp == -1) with
    | false =>
      have HR4 : Hid (q = false) := Lib.hid (by rw [HR3.out, h1]; rfl)
      have h1' : ¬ kp = -1 := by simpa using h1
      clear HR3 HHas
      go_enter Try.func68, Try.ntmps68
      go_wp2
      go_ret
      exact ⟨by rw [HR4.out]; try rfl, by rw [← HW.out]; exact HB.out⟩
    | true =>
      obtain rfl := eq_of_beq h1
      cases h2 : (kids.length == 0) with
      | false =>
        have HR4 : Hid (q = false) := Lib.hid (by rw [HR3.out, h2]; rfl)
        have h2' : ¬ (kids.length : Int) = 0 := fun e => by
          have h3 : kids.length = 0 := by omega
          rw [h3] at h2
          cases h2
        have h4 : ((kids.length : Int) == 0) = false := by
          rw [beq_eq_false_iff_ne]
          exact h2'
        clear HR3 HHas
        go_enter Try.func68, Try.ntmps68
        go_wp2
        go_ret
        exact ⟨by rw [HR4.out]; try rfl, by rw [← HW.out]; exact HB.out⟩
      | true =>
        have HR4 : Hid (q = h) := Lib.hid (by rw [HR3.out, h2]; simp)
        have h2' : (kids.length : Int) = 0 := by
          have h3 := eq_of_beq h2
          omega
        clear HR3
        go_enter Try.func68, Try.ntmps68
        go_wp2_with (go_at_call 89; (with_reducible refine (HHas.out _).mono ?_); rintro e w3 ⟨rfl, hB3⟩)
        rw [← HW.out] at hB3
        go_ret
        exact ⟨by rw [HR4.out]; try rfl, HB.out.trans (hB3.mono HB.out.size)⟩
  · have HC := Lib.hid (hcall hk)
    have hkb : (sk == 0) = false := by simpa using hk
    have hN : ∀ W : World, Below W.heap.size W W := fun W => Below.refl _ W
    have lg := hbg.lt
    cases hrk : r (.node kp (n : Int) ka kc kids) with
    | false =>
      have HR3 : Hid (ofTB g r ⟨sk, ss, so⟩ (.node kp (n : Int) ka kc kids) = false) := Lib.hid (by rw [HE.out, if_neg hk, hrk]; rfl)
      rw [hrk] at HC
      have HK : Hid (∀ W, Below W0.heap.size W0 W → CellsAt W (w.heap.size + 1) 0 (treeC (.node kp (n : Int) ka kc kids)) ∧ True) := Lib.hid (fun W hW => ⟨fun j v hv => by
        have h := (hb2.below hW hb2.lt).cell j
        rw [Nat.zero_add, h, hv], trivial⟩)
      clear HE hcall hr hbg hg hB1 hb1 hb2 HHas hrk
      generalize ofTB g r _ _ = q at *
      unfold symV treeV at *
      unfold symC treeC at hW0 ⊢
      unfold treeC at HC
      go_enter Try.func68, Try.ntmps68
      go_wp2_with fail
      rw [← hW0]
      clear hW0
      refine wp_region_vals0 (N := fun W W' => Below W.heap.size W W') (S := fun W => Below W0.heap.size W0 W)
        [.pointer (some ⟨Bg, 0, none⟩), .agg #[.int .i64 kp, .int .u8 (n : Nat), .slice ka kids.length kc], .bool false, .bool false, undef, undef, undef, undef, undef, undef, undef, undef, undef, undef, undef, undef, .bool false, .bool false]
        #[.pointer (some ⟨Bg, 0, none⟩), .agg #[.int .i64 sk, .int .u64 (wdI ss 0), .int .u64 (wdI ss 1), .int .u64 (wdI ss 2), .int .u64 (wdI ss 3), .int .i64 so], .agg #[.int .i64 kp, .int .u8 (n : Nat), .slice ka kids.length kc], undef, .pointer (some ⟨w.heap.size, 0, none⟩), .pointer (some ⟨w.heap.size + 1, 0, none⟩), .bool false, .pointer (some ⟨w.heap.size, 0, none⟩), .int .i64 sk, .bool false, undef, undef, undef, undef, undef, undef, undef, undef, undef, undef, undef, undef, undef, undef, undef, undef, .pointer (some ⟨Bg, 0, none⟩), .agg #[.int .i64 kp, .int .u8 (n : Nat), .slice ka kids.length kc], .bool false, .bool false, undef, undef, undef, undef, undef, undef, undef, undef, undef, undef, undef, undef, .bool false]
        rfl (by kernel_rfl) (by kernel_rfl) (by kernel_rfl) hN (Below.refl _ W0).drew (fun W W' h hB => h.trans (hB.mono h.size)) ?_ ?_
      · refine Each.val 26 (.pointer (some ⟨Bg, 0, none⟩)) (by kernel_rfl) (by kernel_rfl) (by kernel_rfl) hN (fun _ _ _ => by kernel_rfl) ?_
        refine Each.val 27 (.agg #[.int .i64 kp, .int .u8 (n : Nat), .slice ka kids.length kc]) (by kernel_rfl) (by kernel_rfl) (by kernel_rfl) hN (fun W hS _ => ld51 rfl (by kernel_rfl) ((HK.out W hS).1)) ?_
        refine Each.call 28 (.bool false) 50 #[.pointer (some ⟨Bg, 0, none⟩), .agg #[.int .i64 kp, .int .u8 (n : Nat), .slice ka kids.length kc]] (by kernel_rfl) (by kernel_rfl) (by kernel_rfl) (fun _ _ => by kernel_rfl) (fun W hS => HC.out W (HB.out.trans (hS.mono HB.out.size))) ?_
        refine Each.val 29 (.bool false) (by kernel_rfl) (by kernel_rfl) (by kernel_rfl) hN (fun _ _ _ => by kernel_rfl) ?_
        refine Each.off 30 (by kernel_rfl) (by kernel_rfl) (by kernel_rfl) ?_
        refine Each.off 31 (by kernel_rfl) (by kernel_rfl) (by kernel_rfl) ?_
        refine Each.off 32 (by kernel_rfl) (by kernel_rfl) (by kernel_rfl) ?_
        refine Each.off 33 (by kernel_rfl) (by kernel_rfl) (by kernel_rfl) ?_
        refine Each.off 34 (by kernel_rfl) (by kernel_rfl) (by kernel_rfl) ?_
        refine Each.off 35 (by kernel_rfl) (by kernel_rfl) (by kernel_rfl) ?_
        refine Each.off 36 (by kernel_rfl) (by kernel_rfl) (by kernel_rfl) ?_
        refine Each.off 37 (by kernel_rfl) (by kernel_rfl) (by kernel_rfl) ?_
        refine Each.off 38 (by kernel_rfl) (by kernel_rfl) (by kernel_rfl) ?_
        refine Each.off 39 (by kernel_rfl) (by kernel_rfl) (by kernel_rfl) ?_
        refine Each.off 40 (by kernel_rfl) (by kernel_rfl) (by kernel_rfl) ?_
        refine Each.off 41 (by kernel_rfl) (by kernel_rfl) (by kernel_rfl) ?_
        refine Each.val 42 (.bool false) (by kernel_rfl) (by kernel_rfl) (by kernel_rfl) hN (fun _ _ _ => by kernel_rfl) ?_
        refine Each.val 6 (.bool false) (by kernel_rfl) (by kernel_rfl) (by kernel_rfl) hN (fun _ _ _ => by kernel_rfl) ?_
        exact trivial
      · intro w' hS
        have HB3 := Lib.hid (HB.out.trans (hS.mono HB.out.size))
        clear hS hN
        go_wp2
        go_ret
        exact ⟨by rw [HR3.out]; try rfl, HB3.out⟩
    | true =>
      obtain ⟨m, hm, hmn⟩ := hr hrk
      unfold prodOf at hm
      subst hm
      obtain ⟨x, hx⟩ : ∃ x, g.prods[m]? = some x := ⟨_, List.getElem?_eq_getElem hmn⟩
      have HR2 : Hid (ofTB g r ⟨sk, ss, so⟩ (.node (m : Int) (n : Int) ka kc kids) = (x.left == so)) := Lib.hid (by rw [HE.out, if_neg hk, hrk, Int.toNat_natCast, hx]; rfl)
      rw [hrk] at HC
      obtain ⟨b, off, hpa, hbw, hc, _⟩ := hg.prods m x hx
      have HK : Hid (∀ W, Below W0.heap.size W0 W → CellsAt W (w.heap.size + 1) 0 (treeC (.node (m : Int) (n : Int) ka kc kids)) ∧ W.cell? ⟨Bg, 1, none⟩ = some (.slice (some ⟨b, off, none⟩) g.prods.length g.pc) ∧ W.cell? ⟨w.heap.size + 1, 0, none⟩ = some (.int .i64 (m : Nat))
          ∧ W.cell? ⟨w.heap.size, 5, none⟩ = some (.int .i64 so) ∧ W.cell? ⟨b, off + m * 7, none⟩ = some (.int .i64 x.left)) := Lib.hid (fun W hW => by
        have hWw := hB1.trans (hW.mono hB1.size)
        refine ⟨fun j v hv => ?_, ?_, (hb2.below hW hb2.lt).cell 0, (hb1.below hW hb1.lt).cell 5, ?_⟩
        · have h := (hb2.below hW hb2.lt).cell j
          rw [Nat.zero_add, h, hv]
        · rw [← hpa]; exact (hbg.below hWw hbg.lt).gram.2.1
        · exact (Prod_at (hc.below hWw hbw)).1)
      clear HE hcall hr hbg hg hB1 hb1 hb2 HHas hrk hx hc
      generalize ofTB g r _ _ = q at *
      unfold symV treeV at *
      unfold symC treeC at hW0 ⊢
      unfold treeC at HC
      cases i1 : (x.left == so) with
      | false =>
        have HR3 : Hid (q = false) := Lib.hid (by rw [HR2.out, i1])
        clear HR2
        go_enter Try.func68, Try.ntmps68
        go_wp2_with fail
        rw [← hW0]
        clear hW0
        refine wp_region_vals0 (N := fun W W' => Below W.heap.size W W') (S := fun W => Below W0.heap.size W0 W)
          [.pointer (some ⟨Bg, 0, none⟩), .agg #[.int .i64 (m : Nat), .int .u8 (n : Nat), .slice ka kids.length kc], .bool true, .bool true, .pointer (some ⟨Bg, 0, none⟩), .pointer (some ⟨Bg, 0, none⟩), .pointer (some ⟨Bg, 1, none⟩), .slice (some ⟨b, off, none⟩) g.prods.length g.pc, .pointer (some ⟨w.heap.size + 1, 0, none⟩), .int .i64 (m : Nat), .pointer (some ⟨b, off + m * 7, none⟩), .pointer (some ⟨b, off + m * 7, none⟩), .int .i64 x.left, .pointer (some ⟨w.heap.size, 5, none⟩), .int .i64 so, .bool false, .bool false, .bool false]
          #[.pointer (some ⟨Bg, 0, none⟩), .agg #[.int .i64 sk, .int .u64 (wdI ss 0), .int .u64 (wdI ss 1), .int .u64 (wdI ss 2), .int .u64 (wdI ss 3), .int .i64 so], .agg #[.int .i64 (m : Nat), .int .u8 (n : Nat), .slice ka kids.length kc], undef, .pointer (some ⟨w.heap.size, 0, none⟩), .pointer (some ⟨w.heap.size + 1, 0, none⟩), .bool false, .pointer (some ⟨w.heap.size, 0, none⟩), .int .i64 sk, .bool false, undef, undef, undef, undef, undef, undef, undef, undef, undef, undef, undef, undef, undef, undef, undef, undef, .pointer (some ⟨Bg, 0, none⟩), .agg #[.int .i64 (m : Nat), .int .u8 (n : Nat), .slice ka kids.length kc], .bool true, .bool true, .pointer (some ⟨Bg, 0, none⟩), .pointer (some ⟨Bg, 0, none⟩), .pointer (some ⟨Bg, 1, none⟩), .slice (some ⟨b, off, none⟩) g.prods.length g.pc, .pointer (some ⟨w.heap.size + 1, 0, none⟩), .int .i64 (m : Nat), .pointer (some ⟨b, off + m * 7, none⟩), .pointer (some ⟨b, off + m * 7, none⟩), .int .i64 x.left, .pointer (some ⟨w.heap.size, 5, none⟩), .int .i64 so, .bool false, .bool false]
          rfl (by kernel_rfl) (by kernel_rfl) (by kernel_rfl) hN (Below.refl _ W0).drew (fun W W' h hB => h.trans (hB.mono h.size)) ?_ ?_
        · refine Each.val 26 (.pointer (some ⟨Bg, 0, none⟩)) (by kernel_rfl) (by kernel_rfl) (by kernel_rfl) hN (fun _ _ _ => by kernel_rfl) ?_
          refine Each.val 27 (.agg #[.int .i64 (m : Nat), .int .u8 (n : Nat), .slice ka kids.length kc]) (by kernel_rfl) (by kernel_rfl) (by kernel_rfl) hN (fun W hS _ => ld51 rfl (by kernel_rfl) ((HK.out W hS).1)) ?_
          refine Each.call 28 (.bool true) 50 #[.pointer (some ⟨Bg, 0, none⟩), .agg #[.int .i64 (m : Nat), .int .u8 (n : Nat), .slice ka kids.length kc]] (by kernel_rfl) (by kernel_rfl) (by kernel_rfl) (fun _ _ => by kernel_rfl) (fun W hS => HC.out W (HB.out.trans (hS.mono HB.out.size))) ?_
          refine Each.val 29 (.bool true) (by kernel_rfl) (by kernel_rfl) (by kernel_rfl) hN (fun _ _ _ => by kernel_rfl) ?_
          refine Each.val 30 (.pointer (some ⟨Bg, 0, none⟩)) (by kernel_rfl) (by kernel_rfl) (by kernel_rfl) hN (fun _ _ _ => by kernel_rfl) ?_
          refine Each.val 31 (.pointer (some ⟨Bg, 0, none⟩)) (by kernel_rfl) (by kernel_rfl) (by kernel_rfl) hN (fun _ _ _ => by kernel_rfl) ?_
          refine Each.val 32 (.pointer (some ⟨Bg, 1, none⟩)) (by kernel_rfl) (by kernel_rfl) (by kernel_rfl) hN (fun W hS _ => fa27_1 rfl (by kernel_rfl)) ?_
          refine Each.val 33 (.slice (some ⟨b, off, none⟩) g.prods.length g.pc) (by kernel_rfl) (by kernel_rfl) (by kernel_rfl) hN (fun W hS _ => ld23 rfl (by kernel_rfl) ((HK.out W hS).2.1)) ?_
          refine Each.val 34 (.pointer (some ⟨w.heap.size + 1, 0, none⟩)) (by kernel_rfl) (by kernel_rfl) (by kernel_rfl) hN (fun W hS _ => fa51_0 rfl (by kernel_rfl)) ?_
          refine Each.val 35 (.int .i64 (m : Nat)) (by kernel_rfl) (by kernel_rfl) (by kernel_rfl) hN (fun W hS _ => ld3 rfl (by kernel_rfl) ((HK.out W hS).2.2.1)) ?_
          refine Each.val 36 (.pointer (some ⟨b, off + m * 7, none⟩)) (by kernel_rfl) (by kernel_rfl) (by kernel_rfl) hN (fun W hS _ => ix23 (c := g.pc) rfl (by kernel_rfl) (by kernel_rfl) hmn rfl) ?_
          refine Each.val 37 (.pointer (some ⟨b, off + m * 7, none⟩)) (by kernel_rfl) (by kernel_rfl) (by kernel_rfl) hN (fun W hS _ => fa46_0 rfl (by kernel_rfl)) ?_
          refine Each.val 38 (.int .i64 x.left) (by kernel_rfl) (by kernel_rfl) (by kernel_rfl) hN (fun W hS _ => ld3 rfl (by kernel_rfl) ((HK.out W hS).2.2.2.2)) ?_
          refine Each.val 39 (.pointer (some ⟨w.heap.size, 5, none⟩)) (by kernel_rfl) (by kernel_rfl) (by kernel_rfl) hN (fun W hS _ => fa68_2 rfl (by kernel_rfl)) ?_
          refine Each.val 40 (.int .i64 so) (by kernel_rfl) (by kernel_rfl) (by kernel_rfl) hN (fun W hS _ => ld3 rfl (by kernel_rfl) ((HK.out W hS).2.2.2.1)) ?_
          refine Each.val 41 (.bool false) (by kernel_rfl) (by kernel_rfl) (by kernel_rfl) hN (fun W hS _ => ex_eql3 rfl (by kernel_rfl) (by kernel_rfl) (i1)) ?_
          refine Each.val 42 (.bool false) (by kernel_rfl) (by kernel_rfl) (by kernel_rfl) hN (fun _ _ _ => by kernel_rfl) ?_
          refine Each.val 6 (.bool false) (by kernel_rfl) (by kernel_rfl) (by kernel_rfl) hN (fun _ _ _ => by kernel_rfl) ?_
          exact trivial
        · intro w' hS
          have HB3 := Lib.hid (HB.out.trans (hS.mono HB.out.size))
          clear hS hN
          go_wp2
          go_ret
          exact ⟨by rw [HR3.out]; try rfl, HB3.out⟩
      | true =>
        have HR3 : Hid (q = true) := Lib.hid (by rw [HR2.out, i1])
        clear HR2
        go_enter Try.func68, Try.ntmps68
        go_wp2_with fail
        rw [← hW0]
        clear hW0
        refine wp_region_vals0 (N := fun W W' => Below W.heap.size W W') (S := fun W => Below W0.heap.size W0 W)
          [.pointer (some ⟨Bg, 0, none⟩), .agg #[.int .i64 (m : Nat), .int .u8 (n : Nat), .slice ka kids.length kc], .bool true, .bool true, .pointer (some ⟨Bg, 0, none⟩), .pointer (some ⟨Bg, 0, none⟩), .pointer (some ⟨Bg, 1, none⟩), .slice (some ⟨b, off, none⟩) g.prods.length g.pc, .pointer (some ⟨w.heap.size + 1, 0, none⟩), .int .i64 (m : Nat), .pointer (some ⟨b, off + m * 7, none⟩), .pointer (some ⟨b, off + m * 7, none⟩), .int .i64 x.left, .pointer (some ⟨w.heap.size, 5, none⟩), .int .i64 so, .bool true, .bool true, .bool true]
          #[.pointer (some ⟨Bg, 0, none⟩), .agg #[.int .i64 sk, .int .u64 (wdI ss 0), .int .u64 (wdI ss 1), .int .u64 (wdI ss 2), .int .u64 (wdI ss 3), .int .i64 so], .agg #[.int .i64 (m : Nat), .int .u8 (n : Nat), .slice ka kids.length kc], undef, .pointer (some ⟨w.heap.size, 0, none⟩), .pointer (some ⟨w.heap.size + 1, 0, none⟩), .bool true, .pointer (some ⟨w.heap.size, 0, none⟩), .int .i64 sk, .bool false, undef, undef, undef, undef, undef, undef, undef, undef, undef, undef, undef, undef, undef, undef, undef, undef, .pointer (some ⟨Bg, 0, none⟩), .agg #[.int .i64 (m : Nat), .int .u8 (n : Nat), .slice ka kids.length kc], .bool true, .bool true, .pointer (some ⟨Bg, 0, none⟩), .pointer (some ⟨Bg, 0, none⟩), .pointer (some ⟨Bg, 1, none⟩), .slice (some ⟨b, off, none⟩) g.prods.length g.pc, .pointer (some ⟨w.heap.size + 1, 0, none⟩), .int .i64 (m : Nat), .pointer (some ⟨b, off + m * 7, none⟩), .pointer (some ⟨b, off + m * 7, none⟩), .int .i64 x.left, .pointer (some ⟨w.heap.size, 5, none⟩), .int .i64 so, .bool true, .bool true]
          rfl (by kernel_rfl) (by kernel_rfl) (by kernel_rfl) hN (Below.refl _ W0).drew (fun W W' h hB => h.trans (hB.mono h.size)) ?_ ?_
        · refine Each.val 26 (.pointer (some ⟨Bg, 0, none⟩)) (by kernel_rfl) (by kernel_rfl) (by kernel_rfl) hN (fun _ _ _ => by kernel_rfl) ?_
          refine Each.val 27 (.agg #[.int .i64 (m : Nat), .int .u8 (n : Nat), .slice ka kids.length kc]) (by kernel_rfl) (by kernel_rfl) (by kernel_rfl) hN (fun W hS _ => ld51 rfl (by kernel_rfl) ((HK.out W hS).1)) ?_
          refine Each.call 28 (.bool true) 50 #[.pointer (some ⟨Bg, 0, none⟩), .agg #[.int .i64 (m : Nat), .int .u8 (n : Nat), .slice ka kids.length kc]] (by kernel_rfl) (by kernel_rfl) (by kernel_rfl) (fun _ _ => by kernel_rfl) (fun W hS => HC.out W (HB.out.trans (hS.mono HB.out.size))) ?_
          refine Each.val 29 (.bool true) (by kernel_rfl) (by kernel_rfl) (by kernel_rfl) hN (fun _ _ _ => by kernel_rfl) ?_
          refine Each.val 30 (.pointer (some ⟨Bg, 0, none⟩)) (by kernel_rfl) (by kernel_rfl) (by kernel_rfl) hN (fun _ _ _ => by kernel_rfl) ?_
          refine Each.val 31 (.pointer (some ⟨Bg, 0, none⟩)) (by kernel_rfl) (by kernel_rfl) (by kernel_rfl) hN (fun _ _ _ => by kernel_rfl) ?_
          refine Each.val 32 (.pointer (some ⟨Bg, 1, none⟩)) (by kernel_rfl) (by kernel_rfl) (by kernel_rfl) hN (fun W hS _ => fa27_1 rfl (by kernel_rfl)) ?_
          refine Each.val 33 (.slice (some ⟨b, off, none⟩) g.prods.length g.pc) (by kernel_rfl) (by kernel_rfl) (by kernel_rfl) hN (fun W hS _ => ld23 rfl (by kernel_rfl) ((HK.out W hS).2.1)) ?_
          refine Each.val 34 (.pointer (some ⟨w.heap.size + 1, 0, none⟩)) (by kernel_rfl) (by kernel_rfl) (by kernel_rfl) hN (fun W hS _ => fa51_0 rfl (by kernel_rfl)) ?_
          refine Each.val 35 (.int .i64 (m : Nat)) (by kernel_rfl) (by kernel_rfl) (by kernel_rfl) hN (fun W hS _ => ld3 rfl (by kernel_rfl) ((HK.out W hS).2.2.1)) ?_
          refine Each.val 36 (.pointer (some ⟨b, off + m * 7, none⟩)) (by kernel_rfl) (by kernel_rfl) (by kernel_rfl) hN (fun W hS _ => ix23 (c := g.pc) rfl (by kernel_rfl) (by kernel_rfl) hmn rfl) ?_
          refine Each.val 37 (.pointer (some ⟨b, off + m * 7, none⟩)) (by kernel_rfl) (by kernel_rfl) (by kernel_rfl) hN (fun W hS _ => fa46_0 rfl (by kernel_rfl)) ?_
          refine Each.val 38 (.int .i64 x.left) (by kernel_rfl) (by kernel_rfl) (by kernel_rfl) hN (fun W hS _ => ld3 rfl (by kernel_rfl) ((HK.out W hS).2.2.2.2)) ?_
          refine Each.val 39 (.pointer (some ⟨w.heap.size, 5, none⟩)) (by kernel_rfl) (by kernel_rfl) (by kernel_rfl) hN (fun W hS _ => fa68_2 rfl (by kernel_rfl)) ?_
          refine Each.val 40 (.int .i64 so) (by kernel_rfl) (by kernel_rfl) (by kernel_rfl) hN (fun W hS _ => ld3 rfl (by kernel_rfl) ((HK.out W hS).2.2.2.1)) ?_
          refine Each.val 41 (.bool true) (by kernel_rfl) (by kernel_rfl) (by kernel_rfl) hN (fun W hS _ => ex_eql3 rfl (by kernel_rfl) (by kernel_rfl) (i1)) ?_
          refine Each.val 42 (.bool true) (by kernel_rfl) (by kernel_rfl) (by kernel_rfl) hN (fun _ _ _ => by kernel_rfl) ?_
          refine Each.val 6 (.bool true) (by kernel_rfl) (by kernel_rfl) (by kernel_rfl) hN (fun _ _ _ => by kernel_rfl) ?_
          exact trivial
        · intro w' hS
          have HB3 := Lib.hid (HB.out.trans (hS.mono HB.out.size))
          clear hS hN
          go_wp2
          go_ret
          exact ⟨by rw [HR3.out]; try rfl, HB3.out⟩
end Go.Proofs.Ytiihdbchchnncaa
end
section
namespace Go.Proofs.Ytiihdbchchnncaa
open Go Go.RowKit Go.Vals

theorem ex_neq5 {w : World} {o : Oper} {ρ : Operand → Value} {x y : Operand} {a b : Int} {r : Bool} (ho : o.op = .binOp .neq 5 x y 5) (hx : ρ x = .int .u8 a) (hy : ρ y = .int .u8 b) (h : (a == b) = !r) : (execOp ρ o).run Try.prog w = .ok (.value (.bool r)) w := by
  unfold execOp; rw [ho]; simp only [hx, hy]
  have h2 : (a != b) = r := by simp [bne, h]
  go_simp
/-- Is a tree one of the grammar? -/
def treeB (g : GramM) : Nat → TreeM → Bool
  | 0, _ => false
  | d + 1, .node p b _ _ kids => numB p g.prods.length && b == 0 && (match g.prods[p.toNat]? with
    | none => false
    | some x => !(x.role == 11) && kids.length == x.right.length && (kids.zip x.right).all fun q => ofTB g (treeB g d) q.2 q.1)
theorem treeB_num {g : GramM} {d : Nat} {k : TreeM} (h : treeB g d k = true) : ∃ m : Nat, prodOf k = m ∧ m < g.prods.length := by
  cases d with
  | zero => unfold treeB at h; cases h
  | succ d =>
    obtain ⟨p, b, ka, kc, kids⟩ := k
    unfold treeB at h
    simp only [Bool.and_eq_true] at h
    obtain ⟨m, h1, h2⟩ := numB_nat h.1.1
    exact ⟨m, h1, h2⟩

set_option maxRecDepth 100000 in
set_option maxHeartbeats 4000000 in
theorem isTree_any (g : GramM) (hright : ∀ x, x ∈ g.prods → x.right.length ≤ 1048576) (hprods : g.prods.length ≤ 1048576) (d : Nat) : ∀ (t : TreeM) (Bg : Nat) (w : World), Blk w Bg 27 (gramC g) → GIn w g → TreeIn w t → TFit d t → nestB d t = true →
    Calls Try.prog 50 #[.pointer (some ⟨Bg, 0, none⟩), treeV t] w fun e w' => e = .returned (.bool (treeB g d t)) ∧ Below w.heap.size w w' := by
  induction d with
  | zero => intro t Bg w _ _ _ _ h; unfold nestB at h; cases h
  | succ d ih =>
  intro t Bg w hbg hg ht hfit hnest
  obtain ⟨p, b, ka, kc, kids⟩ := t
  rw [tree_in] at ht
  obtain ⟨hlen, ⟨n, rfl, hn⟩, hkf⟩ := hfit
  have HNe := Lib.hid (List.all_eq_true.1 (show kids.all (nestB d) = true from hnest))
  have HKf := Lib.hid hkf
  have HIh := Lib.hid ih
  have HT : Hid (treeB g (d + 1) (.node p (n : Int) ka kc kids) = (numB p g.prods.length && ((n : Int) == 0) && (match g.prods[p.toNat]? with
    | none => false
    | some x => !(x.role == 11) && kids.length == x.right.length && (kids.zip x.right).all fun q => ofTB g (treeB g d) q.2 q.1))) := Lib.hid (by rw [treeB])
  obtain ⟨W0, hW0⟩ : ∃ W0, W0 = w.alloc (.cells #[.int .i64 p, .int .u8 (n : Nat), .slice ka kids.length kc] 51) := ⟨_, rfl⟩
  have hB1 : Below w.heap.size w W0 := by rw [hW0]; exact (Below.refl _ _).alloc (Nat.le_refl _) _
  have hb1 : Blk W0 w.heap.size 51 #[.int .i64 p, .int .u8 (n : Nat), .slice ka kids.length kc] := by rw [hW0]; exact Blk.new w 51 _
  have HB := Lib.hid hB1
  have Hb1 := Lib.hid hb1
  have lg := hbg.lt
  have HK : Hid (∀ W, Below W0.heap.size W0 W → W.cell? ⟨w.heap.size, 0, none⟩ = some (.int .i64 p) ∧ W.cell? ⟨w.heap.size, 1, none⟩ = some (.int .u8 (n : Nat)) ∧ W.cell? ⟨Bg, 1, none⟩ = some (.slice g.pa g.prods.length g.pc)) := Lib.hid (fun W hW =>
    ⟨(hb1.below hW hb1.lt).cell 0, (hb1.below hW hb1.lt).cell 1, (hbg.below (hB1.trans (hW.mono hB1.size)) hbg.lt).gram.2.1⟩)
  have HBg := Lib.hid hbg
  have HG := Lib.hid hg
  have HTr := Lib.hid ht
  have HRi := Lib.hid hright
  have HN := Lib.hid (fun W => (num_any p (g.prods.length : Nat) W).mono (R' := fun e w' => e = .returned (.bool (numB p (g.prods.length : Nat))) ∧ Below W.heap.size W w') (by rintro e w' ⟨h1, rfl⟩; exact ⟨h1, Below.refl _ _⟩))
  have hN : ∀ W : World, Below W.heap.size W W := fun W => Below.refl _ W
  clear hbg hg ht hkf hnest ih hB1 hb1 hright
  generalize treeB g (d + 1) _ = q at *
  unfold treeV treeC
  cases i1 : numB p (g.prods.length : Nat) with
  | false =>
    have HR3 : Hid (q = false) := Lib.hid (by rw [HT.out, i1]; rfl)
    rw [i1] at HN
    clear HT i1 HNe HKf HIh HBg HG HTr HRi Hb1
    go_enter Try.func50, Try.ntmps50
    go_wp2_with fail
    rw [← hW0]
    clear hW0
    refine wp_region_vals0 (N := fun W W' => Below W.heap.size W W') (S := fun W => Below W0.heap.size W0 W)
      [.pointer (some ⟨w.heap.size, 0, none⟩), .int .i64 p, .pointer (some ⟨Bg, 0, none⟩), .pointer (some ⟨Bg, 0, none⟩), .pointer (some ⟨Bg, 1, none⟩), .slice g.pa g.prods.length g.pc, .int .i64 (g.prods.length : Nat), .bool false, .bool true, .bool true, undef, undef, undef, .bool true]
      #[.pointer (some ⟨Bg, 0, none⟩), .agg #[.int .i64 p, .int .u8 (n : Nat), .slice ka kids.length kc], undef, .pointer (some ⟨w.heap.size, 0, none⟩), .bool false, undef, undef, undef, .pointer (some ⟨w.heap.size, 0, none⟩), .int .i64 p, .pointer (some ⟨Bg, 0, none⟩), .pointer (some ⟨Bg, 0, none⟩), .pointer (some ⟨Bg, 1, none⟩), .slice g.pa g.prods.length g.pc, .int .i64 (g.prods.length : Nat), .bool false, .bool true, .bool true, undef, undef, undef, .bool true, undef, undef, undef, undef, undef, undef, undef, undef, undef, undef, undef, undef, undef, undef, undef, undef, undef, undef, undef, undef, undef, undef, undef, undef, undef, undef, undef, undef, undef, undef, undef, undef, undef, undef, undef, undef, undef, undef]
      rfl (by kernel_rfl) (by kernel_rfl) (by kernel_rfl) hN (Below.refl _ W0).drew (fun W W' h hB => h.trans (hB.mono h.size)) ?_ ?_
    · refine Each.val 8 (.pointer (some ⟨w.heap.size, 0, none⟩)) (by kernel_rfl) (by kernel_rfl) (by kernel_rfl) hN (fun W hS _ => fa51_0 rfl (by kernel_rfl)) ?_
      refine Each.val 9 (.int .i64 p) (by kernel_rfl) (by kernel_rfl) (by kernel_rfl) hN (fun W hS _ => ld3 rfl (by kernel_rfl) ((HK.out W hS).1)) ?_
      refine Each.val 10 (.pointer (some ⟨Bg, 0, none⟩)) (by kernel_rfl) (by kernel_rfl) (by kernel_rfl) hN (fun _ _ _ => by kernel_rfl) ?_
      refine Each.val 11 (.pointer (some ⟨Bg, 0, none⟩)) (by kernel_rfl) (by kernel_rfl) (by kernel_rfl) hN (fun _ _ _ => by kernel_rfl) ?_
      refine Each.val 12 (.pointer (some ⟨Bg, 1, none⟩)) (by kernel_rfl) (by kernel_rfl) (by kernel_rfl) hN (fun W hS _ => fa27_1 rfl (by kernel_rfl)) ?_
      refine Each.val 13 (.slice g.pa g.prods.length g.pc) (by kernel_rfl) (by kernel_rfl) (by kernel_rfl) hN (fun W hS _ => ld23 rfl (by kernel_rfl) ((HK.out W hS).2.2)) ?_
      refine Each.val 14 (.int .i64 (g.prods.length : Nat)) (by kernel_rfl) (by kernel_rfl) (by kernel_rfl) hN (fun W hS _ => len23 (a := g.pa) (c := g.pc) rfl (by kernel_rfl)) ?_
      refine Each.call 15 (.bool false) 42 #[.int .i64 p, .int .i64 (g.prods.length : Nat)] (by kernel_rfl) (by kernel_rfl) (by kernel_rfl) (fun _ _ => by kernel_rfl) (fun W hS => HN.out W) ?_
      refine Each.val 16 (.bool true) (by kernel_rfl) (by kernel_rfl) (by kernel_rfl) hN (fun _ _ _ => by kernel_rfl) ?_
      refine Each.val 17 (.bool true) (by kernel_rfl) (by kernel_rfl) (by kernel_rfl) hN (fun _ _ _ => by kernel_rfl) ?_
      refine Each.off 18 (by kernel_rfl) (by kernel_rfl) (by kernel_rfl) ?_
      refine Each.off 19 (by kernel_rfl) (by kernel_rfl) (by kernel_rfl) ?_
      refine Each.off 20 (by kernel_rfl) (by kernel_rfl) (by kernel_rfl) ?_
      refine Each.val 21 (.bool true) (by kernel_rfl) (by kernel_rfl) (by kernel_rfl) hN (fun _ _ _ => by kernel_rfl) ?_
      exact trivial
    · intro w1 hS
      have HB3 := Lib.hid (HB.out.trans (hS.mono HB.out.size))
      clear hS hN
      go_wp2
      go_ret
      exact ⟨by rw [HR3.out]; try rfl, HB3.out⟩
  | true =>
    obtain ⟨m, rfl, hm⟩ := numB_nat i1
    rw [i1] at HN HT
    cases i2 : ((n : Int) == 0) with
    | false =>
      have HR3 : Hid (q = false) := Lib.hid (by rw [HT.out, i2]; rfl)
      clear HT i1 HNe HKf HIh HBg HG HTr HRi Hb1
      go_enter Try.func50, Try.ntmps50
      go_wp2_with fail
      rw [← hW0]
      clear hW0
      refine wp_region_vals0 (N := fun W W' => Below W.heap.size W W') (S := fun W => Below W0.heap.size W0 W)
        [.pointer (some ⟨w.heap.size, 0, none⟩), .int .i64 (m : Nat), .pointer (some ⟨Bg, 0, none⟩), .pointer (some ⟨Bg, 0, none⟩), .pointer (some ⟨Bg, 1, none⟩), .slice g.pa g.prods.length g.pc, .int .i64 (g.prods.length : Nat), .bool true, .bool false, .bool false, .pointer (some ⟨w.heap.size, 1, none⟩), .int .u8 (n : Nat), .bool true, .bool true]
        #[.pointer (some ⟨Bg, 0, none⟩), .agg #[.int .i64 (m : Nat), .int .u8 (n : Nat), .slice ka kids.length kc], undef, .pointer (some ⟨w.heap.size, 0, none⟩), .bool false, undef, undef, undef, .pointer (some ⟨w.heap.size, 0, none⟩), .int .i64 (m : Nat), .pointer (some ⟨Bg, 0, none⟩), .pointer (some ⟨Bg, 0, none⟩), .pointer (some ⟨Bg, 1, none⟩), .slice g.pa g.prods.length g.pc, .int .i64 (g.prods.length : Nat), .bool true, .bool false, .bool false, .pointer (some ⟨w.heap.size, 1, none⟩), .int .u8 (n : Nat), .bool true, .bool true, undef, undef, undef, undef, undef, undef, undef, undef, undef, undef, undef, undef, undef, undef, undef, undef, undef, undef, undef, undef, undef, undef, undef, undef, undef, undef, undef, undef, undef, undef, undef, undef, undef, undef, undef, undef, undef, undef]
        rfl (by kernel_rfl) (by kernel_rfl) (by kernel_rfl) hN (Below.refl _ W0).drew (fun W W' h hB => h.trans (hB.mono h.size)) ?_ ?_
      · refine Each.val 8 (.pointer (some ⟨w.heap.size, 0, none⟩)) (by kernel_rfl) (by kernel_rfl) (by kernel_rfl) hN (fun W hS _ => fa51_0 rfl (by kernel_rfl)) ?_
        refine Each.val 9 (.int .i64 (m : Nat)) (by kernel_rfl) (by kernel_rfl) (by kernel_rfl) hN (fun W hS _ => ld3 rfl (by kernel_rfl) ((HK.out W hS).1)) ?_
        refine Each.val 10 (.pointer (some ⟨Bg, 0, none⟩)) (by kernel_rfl) (by kernel_rfl) (by kernel_rfl) hN (fun _ _ _ => by kernel_rfl) ?_
        refine Each.val 11 (.pointer (some ⟨Bg, 0, none⟩)) (by kernel_rfl) (by kernel_rfl) (by kernel_rfl) hN (fun _ _ _ => by kernel_rfl) ?_
        refine Each.val 12 (.pointer (some ⟨Bg, 1, none⟩)) (by kernel_rfl) (by kernel_rfl) (by kernel_rfl) hN (fun W hS _ => fa27_1 rfl (by kernel_rfl)) ?_
        refine Each.val 13 (.slice g.pa g.prods.length g.pc) (by kernel_rfl) (by kernel_rfl) (by kernel_rfl) hN (fun W hS _ => ld23 rfl (by kernel_rfl) ((HK.out W hS).2.2)) ?_
        refine Each.val 14 (.int .i64 (g.prods.length : Nat)) (by kernel_rfl) (by kernel_rfl) (by kernel_rfl) hN (fun W hS _ => len23 (a := g.pa) (c := g.pc) rfl (by kernel_rfl)) ?_
        refine Each.call 15 (.bool true) 42 #[.int .i64 (m : Nat), .int .i64 (g.prods.length : Nat)] (by kernel_rfl) (by kernel_rfl) (by kernel_rfl) (fun _ _ => by kernel_rfl) (fun W hS => HN.out W) ?_
        refine Each.val 16 (.bool false) (by kernel_rfl) (by kernel_rfl) (by kernel_rfl) hN (fun _ _ _ => by kernel_rfl) ?_
        refine Each.val 17 (.bool false) (by kernel_rfl) (by kernel_rfl) (by kernel_rfl) hN (fun _ _ _ => by kernel_rfl) ?_
        refine Each.val 18 (.pointer (some ⟨w.heap.size, 1, none⟩)) (by kernel_rfl) (by kernel_rfl) (by kernel_rfl) hN (fun W hS _ => fa51_1 rfl (by kernel_rfl)) ?_
        refine Each.val 19 (.int .u8 (n : Nat)) (by kernel_rfl) (by kernel_rfl) (by kernel_rfl) hN (fun W hS _ => ld5 rfl (by kernel_rfl) ((HK.out W hS).2.1)) ?_
        refine Each.val 20 (.bool true) (by kernel_rfl) (by kernel_rfl) (by kernel_rfl) hN (fun W hS _ => ex_neq5 rfl (by kernel_rfl) (by kernel_rfl) (i2)) ?_
        refine Each.val 21 (.bool true) (by kernel_rfl) (by kernel_rfl) (by kernel_rfl) hN (fun _ _ _ => by kernel_rfl) ?_
        exact trivial
      · intro w1 hS
        have HB3 := Lib.hid (HB.out.trans (hS.mono HB.out.size))
        clear hS hN
        go_wp2
        go_ret
        exact ⟨by rw [HR3.out]; try rfl, HB3.out⟩
    | true =>
      obtain ⟨x, hx⟩ : ∃ x, g.prods[m]? = some x := ⟨_, List.getElem?_eq_getElem hm⟩
      have HX : Hid (q = (!(x.role == 11) && kids.length == x.right.length && (kids.zip x.right).all fun q => ofTB g (treeB g d) q.2 q.1)) := Lib.hid (by rw [HT.out, i2, Int.toNat_natCast, hx]; rfl)
      have HMem := Lib.hid (List.mem_of_getElem? hx)
      have hxr := HRi.out x HMem.out
      obtain ⟨pb, po, hpa, hbw, hc, hpi⟩ := HG.out.prods m x hx
      have HPa := Lib.hid hpa
      have HC := Lib.hid hc
      have HPi := Lib.hid hpi
      clear HT i1 hx hc hpi hpa
      go_enter Try.func50, Try.ntmps50
      go_wp2_with fail
      rw [← hW0]
      clear hW0
      refine wp_region_vals0 (N := fun W W' => Below W.heap.size W W') (S := fun W => Below W0.heap.size W0 W)
        [.pointer (some ⟨w.heap.size, 0, none⟩), .int .i64 (m : Nat), .pointer (some ⟨Bg, 0, none⟩), .pointer (some ⟨Bg, 0, none⟩), .pointer (some ⟨Bg, 1, none⟩), .slice g.pa g.prods.length g.pc, .int .i64 (g.prods.length : Nat), .bool true, .bool false, .bool false, .pointer (some ⟨w.heap.size, 1, none⟩), .int .u8 (n : Nat), .bool false, .bool false]
        #[.pointer (some ⟨Bg, 0, none⟩), .agg #[.int .i64 (m : Nat), .int .u8 (n : Nat), .slice ka kids.length kc], undef, .pointer (some ⟨w.heap.size, 0, none⟩), .bool false, undef, undef, undef, .pointer (some ⟨w.heap.size, 0, none⟩), .int .i64 (m : Nat), .pointer (some ⟨Bg, 0, none⟩), .pointer (some ⟨Bg, 0, none⟩), .pointer (some ⟨Bg, 1, none⟩), .slice g.pa g.prods.length g.pc, .int .i64 (g.prods.length : Nat), .bool true, .bool false, .bool false, .pointer (some ⟨w.heap.size, 1, none⟩), .int .u8 (n : Nat), .bool false, .bool false, undef, undef, undef, undef, undef, undef, undef, undef, undef, undef, undef, undef, undef, undef, undef, undef, undef, undef, undef, undef, undef, undef, undef, undef, undef, undef, undef, undef, undef, undef, undef, undef, undef, undef, undef, undef, undef, undef]
        rfl (by kernel_rfl) (by kernel_rfl) (by kernel_rfl) hN (Below.refl _ W0).drew (fun W W' h hB => h.trans (hB.mono h.size)) ?_ ?_
      · refine Each.val 8 (.pointer (some ⟨w.heap.size, 0, none⟩)) (by kernel_rfl) (by kernel_rfl) (by kernel_rfl) hN (fun W hS _ => fa51_0 rfl (by kernel_rfl)) ?_
        refine Each.val 9 (.int .i64 (m : Nat)) (by kernel_rfl) (by kernel_rfl) (by kernel_rfl) hN (fun W hS _ => ld3 rfl (by kernel_rfl) ((HK.out W hS).1)) ?_
        refine Each.val 10 (.pointer (some ⟨Bg, 0, none⟩)) (by kernel_rfl) (by kernel_rfl) (by kernel_rfl) hN (fun _ _ _ => by kernel_rfl) ?_
        refine Each.val 11 (.pointer (some ⟨Bg, 0, none⟩)) (by kernel_rfl) (by kernel_rfl) (by kernel_rfl) hN (fun _ _ _ => by kernel_rfl) ?_
        refine Each.val 12 (.pointer (some ⟨Bg, 1, none⟩)) (by kernel_rfl) (by kernel_rfl) (by kernel_rfl) hN (fun W hS _ => fa27_1 rfl (by kernel_rfl)) ?_
        refine Each.val 13 (.slice g.pa g.prods.length g.pc) (by kernel_rfl) (by kernel_rfl) (by kernel_rfl) hN (fun W hS _ => ld23 rfl (by kernel_rfl) ((HK.out W hS).2.2)) ?_
        refine Each.val 14 (.int .i64 (g.prods.length : Nat)) (by kernel_rfl) (by kernel_rfl) (by kernel_rfl) hN (fun W hS _ => len23 (a := g.pa) (c := g.pc) rfl (by kernel_rfl)) ?_
        refine Each.call 15 (.bool true) 42 #[.int .i64 (m : Nat), .int .i64 (g.prods.length : Nat)] (by kernel_rfl) (by kernel_rfl) (by kernel_rfl) (fun _ _ => by kernel_rfl) (fun W hS => HN.out W) ?_
        refine Each.val 16 (.bool false) (by kernel_rfl) (by kernel_rfl) (by kernel_rfl) hN (fun _ _ _ => by kernel_rfl) ?_
        refine Each.val 17 (.bool false) (by kernel_rfl) (by kernel_rfl) (by kernel_rfl) hN (fun _ _ _ => by kernel_rfl) ?_
        refine Each.val 18 (.pointer (some ⟨w.heap.size, 1, none⟩)) (by kernel_rfl) (by kernel_rfl) (by kernel_rfl) hN (fun W hS _ => fa51_1 rfl (by kernel_rfl)) ?_
        refine Each.val 19 (.int .u8 (n : Nat)) (by kernel_rfl) (by kernel_rfl) (by kernel_rfl) hN (fun W hS _ => ld5 rfl (by kernel_rfl) ((HK.out W hS).2.1)) ?_
        refine Each.val 20 (.bool false) (by kernel_rfl) (by kernel_rfl) (by kernel_rfl) hN (fun W hS _ => ex_neq5 rfl (by kernel_rfl) (by kernel_rfl) (i2)) ?_
        refine Each.val 21 (.bool false) (by kernel_rfl) (by kernel_rfl) (by kernel_rfl) hN (fun _ _ _ => by kernel_rfl) ?_
        exact trivial
      · intro w1 hS
        have HB3 := Lib.hid (HB.out.trans (hS.mono HB.out.size))
        have Hb3 := Lib.hid (Hb1.out.below hS Hb1.out.lt)
        have HBg3 := Lib.hid (HBg.out.below HB3.out HBg.out.lt)
        have g1 := HBg3.out.gram.2.1
        rw [HPa.out] at g1
        have lg3 := HBg3.out.lt
        have lb3 := Hb3.out.lt
        have a0 := Hb3.out.cell 0
        have a2 := Hb3.out.cell 2
        simp only [List.getElem?_toArray, List.getElem?_cons_zero, List.getElem?_cons_succ] at a0 a2
        have lpb : pb < w1.heap.size := Nat.lt_of_lt_of_le hbw HB3.out.size
        obtain ⟨c0, c1, c2, c3, c4, c5, c6⟩ := Prod_at (HC.out.below HB3.out hbw)
        have m1 : (m : Int) < (g.prods.length : Int) := by omega
        clear hS hN HK HN
        go_wp2
        go_region
        obtain ⟨W2, hW2⟩ : ∃ W, W = (w1.alloc (.cells #[.int .i64 x.left, .slice x.ra x.right.length x.rc, .string x.cons, .int .i64 x.role, .bool x.prefer, .bool x.avoid, .int .i64 x.frm] 46)).drew := ⟨_, rfl⟩
        have hb2 : Blk W2 w1.heap.size 46 (prodC x) := by rw [hW2]; exact Blk.new w1 46 _
        have hBw2 : Below w1.heap.size w1 W2 := by rw [hW2]; exact ((Below.refl _ _).alloc (Nat.le_refl _) _).drew
        rw [← hW2]
        have Hb2 := Lib.hid hb2
        have HB4 := Lib.hid (HB3.out.trans (hBw2.mono HB3.out.size))
        have Hb4 := Lib.hid (Hb3.out.below hBw2 Hb3.out.lt)
        have HBg4 := Lib.hid (HBg3.out.below hBw2 HBg3.out.lt)
        obtain ⟨_, d1, _, d3, _, _, _⟩ := hb2.prod
        have l2 := hb2.lt
        have b2 := Hb4.out.cell 2
        simp only [List.getElem?_toArray, List.getElem?_cons_zero, List.getElem?_cons_succ] at b2
        have lb4 := Hb4.out.lt
        obtain ⟨xra, hxra⟩ : ∃ a, a = x.ra := ⟨_, rfl⟩
        have HXra := Lib.hid hxra
        rw [← hxra] at d1 ⊢
        clear hW2 hb2 hBw2 hxra c0 c1 c2 c3 c4 c5 c6 a0 a2 g1
        cases h1 : (x.role == 11) with
        | true =>
          have HR3 : Hid (q = false) := Lib.hid (by rw [HX.out, h1]; rfl)
          go_wp2
          go_ret
          exact ⟨by rw [HR3.out]; try rfl, HB4.out⟩
        | false =>
          cases h2 : (kids.length == x.right.length) with
          | false =>
            have HR3 : Hid (q = false) := Lib.hid (by rw [HX.out, h2]; simp)
            have h3 : ((kids.length : Int) == (x.right.length : Int)) = false := by
              rw [beq_eq_false_iff_ne] at h2 ⊢
              omega
            have h4 : ((kids.length : Int) != (x.right.length : Int)) = true := by rw [bne, h3]; rfl
            go_wp2
            go_ret
            exact ⟨by rw [HR3.out]; try rfl, HB4.out⟩
          | true =>
            have HL2 := Lib.hid (eq_of_beq h2)
            have HX2 : Hid (q = (kids.zip x.right).all fun q => ofTB g (treeB g d) q.2 q.1) := Lib.hid (by rw [HX.out, h1, h2]; simp)
            have h3 : ((kids.length : Int) == (x.right.length : Int)) = true := by
              rw [beq_iff_eq, HL2.out]
            have h4 : ((kids.length : Int) != (x.right.length : Int)) = false := by rw [bne, h3]; rfl
            have HLn := Lib.hid hlen
            have hrl : kids.length ≤ 1048576 := hlen
            clear HX h2
            go_wp2
            have HB5 := Lib.hid (Below.refl W2.heap.size W2)
            go_loopw [45] (fun i wr => ∃ k : Nat, i = .int .i64 k ∧ k ≤ kids.length ∧ Hid (((kids.zip x.right).take k).all (fun q => ofTB g (treeB g d) q.2 q.1) = true) ∧ Hid (Below W2.heap.size W2 wr))
              (fun i _ => kids.length - (intOf i).toNat)
            case atStart => exact ⟨0, rfl, Nat.zero_le _, Lib.hid rfl, HB5⟩
            case round =>
              clear HB5 b2 d1 d3
              obtain ⟨k, rfl, hk, hA, hB⟩ := hrel
              by_cases hlt : k < kids.length
              · obtain ⟨kd, hkd⟩ : ∃ y, kids[k]? = some y := ⟨_, List.getElem?_eq_getElem hlt⟩
                obtain ⟨s, hs⟩ : ∃ y, x.right[k]? = some y := ⟨_, List.getElem?_eq_getElem (by rw [← HL2.out]; exact hlt)⟩
                have hkm := List.mem_of_getElem? hkd
                have hz : (kids.zip x.right)[k]? = some (kd, s) := by rw [List.getElem?_zip_eq_some]; exact ⟨hkd, hs⟩
                have HZ := Lib.hid (take_snoc _ k _ hz)
                obtain ⟨kb, ko, rfl, hkb, hkc, hki⟩ := HTr.out k kd hkd
                obtain ⟨rb, ro, hra, hrb, hrc, _⟩ := HPi.out k s hs
                rw [← HXra.out] at hra
                subst hra
                have hBr := HB4.out.trans (hB.out.mono HB4.out.size)
                have HBr := Lib.hid hBr
                have hfd : ∃ d', TFit (d' + 1) kd := by
                  have h1 := HKf.out kd hkm
                  have h2 := HNe.out kd hkm
                  cases d with
                  | zero => unfold nestB at h2; cases h2
                  | succ d' => exact ⟨d', h1⟩
                obtain ⟨d', hfd⟩ := hfd
                have HCk := Lib.hid (fun W (hW : Below wr.heap.size wr W) => isTreeOf_any g s kd (treeB g d) d' Bg W (HBg.out.below (hBr.trans (hW.mono hBr.size)) HBg.out.lt) (HG.out.below (hBr.trans (hW.mono hBr.size))) hfd
                  (fun _ V hV => HIh.out kd Bg V (HBg.out.below (hBr.trans ((hW.trans (hV.mono hW.size)).mono hBr.size)) HBg.out.lt) (HG.out.below (hBr.trans ((hW.trans (hV.mono hW.size)).mono hBr.size))) (TreeIn.below (hBr.trans ((hW.trans (hV.mono hW.size)).mono hBr.size)) kd hki) (HKf.out kd hkm) (HNe.out kd hkm))
                  treeB_num)
                have HV : Hid (((kids.zip x.right).take (k + 1)).all (fun q => ofTB g (treeB g d) q.2 q.1) = ofTB g (treeB g d) s kd) := Lib.hid (by rw [HZ.out, List.all_append, hA.out]; simp)
                have HVf : Hid (ofTB g (treeB g d) s kd = false → ((kids.zip x.right).all fun q => ofTB g (treeB g d) q.2 q.1) = false) := Lib.hid (fun h => by
                  rw [Bool.eq_false_iff]
                  intro h2
                  have := List.all_eq_true.1 h2 (kd, s) (List.mem_of_getElem? hz)
                  rw [h] at this
                  cases this)
                generalize ofTB g (treeB g d) s kd = r at *
                obtain ⟨tp, tb, ta, tc, tk⟩ := kd
                obtain ⟨t0, t1, t2⟩ := Tree_at (hkc.below hBr hkb)
                obtain ⟨s0, s1, s2, s3, s4, s5⟩ := Sym_at (hrc.below hBr hrb)
                obtain ⟨sk, ss, so⟩ := s
                have lrb : rb < wr.heap.size := Nat.lt_of_lt_of_le hrb hBr.size
                have lw2 : w1.heap.size < wr.heap.size := Nat.lt_of_lt_of_le l2 hB.out.size
                have hb2r := (Hb2.out.below hB.out l2).prod.2.1
                rw [← HXra.out] at hb2r
                have k1 : (k : Int) < (kids.length : Int) := by omega
                have k2 : (k : Int) < (x.right.length : Int) := by have := HL2.out; omega
                have hb3 := Blk.new wr 51 #[.int .i64 tp, .int .u8 tb, .slice ta tk.length tc]
                obtain ⟨W3, hW3⟩ : ∃ W, W = wr.alloc (.cells #[.int .i64 tp, .int .u8 tb, .slice ta tk.length tc] 51) := ⟨_, rfl⟩
                have hB3w : Below wr.heap.size wr W3 := by rw [hW3]; exact (Below.refl _ _).alloc (Nat.le_refl _) _
                rw [← hW3] at hb3
                have v0 := hb3.cell 0
                have v1 := hb3.cell 1
                have v2 := hb3.cell 2
                simp only [List.getElem?_toArray, List.getElem?_cons_zero, List.getElem?_cons_succ] at v0 v1 v2
                have HC3 := Lib.hid (HCk.out W3.drew hB3w.drew)
                have HBr3 := Lib.hid (hB.out.drew.trans ((Below.refl _ _).mono (Nat.le_refl _)))
                have HB3w := Lib.hid hB3w
                unfold symV treeV symC treeC at HC3
                dsimp only at s0 s1 s2 s3 s4 s5
                have z0 := (World.cell?_of_block (hB3w.block rb lrb)).trans s0
                have z1 := (World.cell?_of_block (hB3w.block rb lrb)).trans s1
                have z2 := (World.cell?_of_block (hB3w.block rb lrb)).trans s2
                have z3 := (World.cell?_of_block (hB3w.block rb lrb)).trans s3
                have z4 := (World.cell?_of_block (hB3w.block rb lrb)).trans s4
                have z5 := (World.cell?_of_block (hB3w.block rb lrb)).trans s5
                have z6 := (World.cell?_of_block (hB3w.block w1.heap.size lw2)).trans hb2r
                have l3 : wr.heap.size < W3.heap.size := hb3.lt
                clear hkd hs hz hki hkc hrc hfd HZ HCk hb3 hB3w hBr s0 s1 s2 s3 s4 s5 hb2r
                go_wp2_with fail
                rw [← hW3]
                clear hW3 t0 t1 t2
                go_region_held2 (fun W => W.cell? ⟨w1.heap.size, 1, none⟩ = some (.slice (some ⟨rb, ro, none⟩) x.right.length x.rc) ∧ W.cell? ⟨rb, ro + k * 6, none⟩ = some (.int .i64 sk) ∧ W.cell? ⟨rb, ro + k * 6 + 1, none⟩ = some (.int .u64 (wdI ss 0)) ∧ W.cell? ⟨rb, ro + k * 6 + 2, none⟩ = some (.int .u64 (wdI ss 1))
                    ∧ W.cell? ⟨rb, ro + k * 6 + 3, none⟩ = some (.int .u64 (wdI ss 2)) ∧ W.cell? ⟨rb, ro + k * 6 + 4, none⟩ = some (.int .u64 (wdI ss 3)) ∧ W.cell? ⟨rb, ro + k * 6 + 5, none⟩ = some (.int .i64 so)
                    ∧ W.cell? ⟨wr.heap.size, 0, none⟩ = some (.int .i64 tp) ∧ W.cell? ⟨wr.heap.size, 1, none⟩ = some (.int .u8 tb) ∧ W.cell? ⟨wr.heap.size, 2, none⟩ = some (.slice ta tk.length tc)) (go_keep)
                  ((go_at_call 68; (with_reducible refine HC3.out.mono ?_); rintro e w5 ⟨rfl, hB5⟩; have hB5' : Below W3.heap.size W3 w5 := ⟨hB5.os, hB5.tape, hB5.output, hB5.size, hB5.block⟩; have y0 := (World.cell?_of_block (hB5'.block wr.heap.size l3)).trans v0; have y1 := (World.cell?_of_block (hB5'.block wr.heap.size l3)).trans v1; have y2 := (World.cell?_of_block (hB5'.block wr.heap.size l3)).trans v2; have l4 : rb < W3.heap.size := (by omega); have l5 : w1.heap.size < W3.heap.size := (by omega); have x0 := (World.cell?_of_block (hB5'.block rb l4)).trans z0; have x1 := (World.cell?_of_block (hB5'.block rb l4)).trans z1; have x2 := (World.cell?_of_block (hB5'.block rb l4)).trans z2; have x3 := (World.cell?_of_block (hB5'.block rb l4)).trans z3; have x4 := (World.cell?_of_block (hB5'.block rb l4)).trans z4; have x5 := (World.cell?_of_block (hB5'.block rb l4)).trans z5; have x6 := (World.cell?_of_block (hB5'.block w1.heap.size l5)).trans z6; have HB5 := Lib.hid (hB.out.trans ((HB3w.out.trans (hB5'.mono HB3w.out.size)).mono hB.out.size)); clear hB5 hB5'))
                clear v0 v1 v2 z0 z1 z2 z3 z4 z5 z6
                cases r with
                | false =>
                  have HR3 : Hid (q = false) := Lib.hid (by rw [HX2.out, HVf.out rfl])
                  go_wp2
                  go_ret
                  exact ⟨by rw [HR3.out]; try rfl, HB4.out.trans (HB5.out.mono HB4.out.size)⟩
                | true =>
                  go_wp2
                  go_roundw
                  case rel => exact ⟨k + 1, by go_num, by omega, HV, HB5⟩
                  case measure => simp [intOf]; omega
              · obtain rfl : k = kids.length := by omega
                have hA2 := hA.out
                rw [List.take_of_length_le (by rw [List.length_zip, HL2.out]; omega)] at hA2
                have HR3 : Hid (q = true) := Lib.hid (by rw [HX2.out, hA2])
                go_wp2
                go_ret
                exact ⟨by rw [HR3.out]; try rfl, HB4.out.trans (hB.out.mono HB4.out.size)⟩
end Go.Proofs.Ytiihdbchchnncaa
end
section
namespace Go.Proofs.Ytiihdbchchnncaa
open Go Go.RowKit Go.Vals

/-- CheckTree's answer. -/
def ctI (g : GramM) (t : TreeM) : Int := if !(checkB g) then 160 else if !(nestB 16384 t) then 3 else if !(treeB g 16384 t) then 163 else 0

set_option maxRecDepth 100000 in
set_option maxHeartbeats 2000000 in
theorem checkTree_any (g : GramM) (t : TreeM) (w : World) (hg : GIn w g) (hf : FitG g) (ht : TreeIn w t) (hfit : TFit 16384 t) :
    Calls Try.prog 22 #[gramV g, treeV t] w fun e w' => e = .returned (.int .i64 (ctI g t)) ∧ Below w.heap.size w w' := by
  obtain ⟨W1, hW1⟩ : ∃ W, W = (w.alloc (.cells (gramC g) 27)).alloc (.cells (treeC t) 51) := ⟨_, rfl⟩
  have hB1 : Below w.heap.size w W1 := by rw [hW1]; exact ((Below.refl _ _).alloc (Nat.le_refl _) _).alloc (by simp) _
  have hb1 : Blk W1 w.heap.size 27 (gramC g) := by rw [hW1]; exact (Blk.new w 27 (gramC g)).alloc _
  have hb2 : Blk W1 (w.heap.size + 1) 51 (treeC t) := by
    have h := Blk.new (w.alloc (.cells (gramC g) 27)) 51 (treeC t)
    rw [World.size_alloc] at h
    rw [hW1]; exact h
  have HB := Lib.hid hB1
  have HCk := Lib.hid (check_any g W1 (hg.below hB1) hf)
  have HNe := Lib.hid (fun W (hW : Below W1.heap.size W1 W) => nested_any 16384 (by omega) t W (TreeIn.below (hB1.trans (hW.mono hB1.size)) t ht) hfit)
  rw [show ((16384 : Nat) : Int) = 16384 from rfl] at HNe
  have HTr := Lib.hid (fun (h : nestB 16384 t = true) W (hW : Below W1.heap.size W1 W) => isTree_any g hf.fit.right hf.fit.prods 16384 t w.heap.size W (hb1.below hW hb1.lt) (hg.below (hB1.trans (hW.mono hB1.size))) (TreeIn.below (hB1.trans (hW.mono hB1.size)) t ht) hfit h)
  have HR : Hid (ctI g t = if !(checkB g) then 160 else if !(nestB 16384 t) then 3 else if !(treeB g 16384 t) then 163 else 0) := Lib.hid rfl
  have HW := Lib.hid hW1
  have Hb1 := Lib.hid hb1
  have Hb2 := Lib.hid hb2
  have l1 := hb1.lt
  have l2 := hb2.lt
  have c := hb1.gram
  clear hg hf ht hfit hB1 hb1 hb2 hW1
  generalize ctI g t = q at *
  generalize treeB g 16384 t = r3 at *
  cases hc : checkB g with
  | false =>
    have HR3 : Hid (q = 160) := Lib.hid (by rw [HR.out, hc]; rfl)
    rw [hc] at HCk
    have he : errI false = 160 := rfl
    rw [he] at HCk
    clear he hc HR HNe HTr c
    obtain ⟨p, b, ka, kc, kids⟩ := t
    unfold gramV treeV gramC treeC at *
    go_enter Try.func22, Try.ntmps22
    go_wp2_with fail
    rw [← HW.out]
    with_reducible refine HCk.out.mono ?_
    rintro e w3 ⟨rfl, hB3⟩
    have HF := Lib.hid (HB.out.trans (hB3.mono HB.out.size))
    clear hB3
    go_wp2
    go_ret
    exact ⟨by rw [HR3.out]; try rfl, HF.out⟩
  | true =>
    rw [hc] at HCk
    have he : errI true = 0 := rfl
    rw [he] at HCk
    clear he c
    cases hn : nestB 16384 t with
    | false =>
      have HR3 : Hid (q = 3) := Lib.hid (by rw [HR.out, hc, hn]; rfl)
      rw [hn] at HNe
      clear hc hn HR HTr
      obtain ⟨p, b, ka, kc, kids⟩ := t
      unfold gramV treeV gramC treeC at *
      go_enter Try.func22, Try.ntmps22
      go_wp2_with fail
      rw [← HW.out]
      with_reducible refine HCk.out.mono ?_
      rintro e w3 ⟨rfl, hB3⟩
      have HB3 := Lib.hid (HB.out.trans (hB3.mono HB.out.size))
      have hk := Hb2.out.below hB3 Hb2.out.lt
      have d0 := hk.cell 0
      have d1 := hk.cell 1
      have d2 := hk.cell 2
      simp only [List.getElem?_toArray, List.getElem?_cons_zero, List.getElem?_cons_succ] at d0 d1 d2
      have l3 := hk.lt
      have HN3 := Lib.hid (HNe.out w3 hB3)
      clear hB3 hk
      go_wp2_with fail
      with_reducible refine HN3.out.mono ?_
      rintro e w4 ⟨rfl, hB4⟩
      have HF := Lib.hid (HB3.out.trans (hB4.mono HB3.out.size))
      clear hB4
      go_wp2
      go_ret
      exact ⟨by rw [HR3.out]; try rfl, HF.out⟩
    | true =>
      have HR2 : Hid (q = if !r3 then 163 else 0) := Lib.hid (by rw [HR.out, hc, hn]; rfl)
      have HTr := Lib.hid (HTr.out hn)
      rw [hn] at HNe
      clear hc hn HR
      obtain ⟨p, b, ka, kc, kids⟩ := t
      unfold gramV treeV gramC treeC at *
      go_enter Try.func22, Try.ntmps22
      go_wp2_with fail
      rw [← HW.out]
      with_reducible refine HCk.out.mono ?_
      rintro e w3 ⟨rfl, hB3⟩
      have HB3 := Lib.hid (HB.out.trans (hB3.mono HB.out.size))
      have HB3' := Lib.hid hB3
      have hk := Hb2.out.below hB3 Hb2.out.lt
      have d0 := hk.cell 0
      have d1 := hk.cell 1
      have d2 := hk.cell 2
      simp only [List.getElem?_toArray, List.getElem?_cons_zero, List.getElem?_cons_succ] at d0 d1 d2
      have l3 := hk.lt
      have Hk3 := Lib.hid hk
      have HN3 := Lib.hid (HNe.out w3 hB3)
      clear hB3 hk
      go_wp2_with fail
      with_reducible refine HN3.out.mono ?_
      rintro e w4 ⟨rfl, hB4⟩
      have HB4 := Lib.hid (HB3.out.trans (hB4.mono HB3.out.size))
      have hk := Hk3.out.below hB4 Hk3.out.lt
      have f0 := hk.cell 0
      have f1 := hk.cell 1
      have f2 := hk.cell 2
      simp only [List.getElem?_toArray, List.getElem?_cons_zero, List.getElem?_cons_succ] at f0 f1 f2
      have l4 := hk.lt
      have HT4 := Lib.hid (HTr.out w4 (HB3'.out.trans (hB4.mono HB3'.out.size)))
      clear hB4 hk d0 d1 d2
      go_wp2_with fail
      with_reducible refine HT4.out.mono ?_
      rintro e w5 ⟨rfl, hB5⟩
      have HF := Lib.hid (HB4.out.trans (hB5.mono HB4.out.size))
      clear hB5
      cases r3 with
      | false =>
        have HR3 : Hid (q = 163) := Lib.hid (by rw [HR2.out]; rfl)
        go_wp2
        go_ret
        exact ⟨by rw [HR3.out]; try rfl, HF.out⟩
      | true =>
        have HR3 : Hid (q = 0) := Lib.hid (by rw [HR2.out]; rfl)
        go_wp2
        go_ret
        exact ⟨by rw [HR3.out]; try rfl, HF.out⟩
end Go.Proofs.Ytiihdbchchnncaa
end
section
namespace Go.Proofs.Ytiihdbchchnncaa
open Go Go.RowKit

def zeroG : GramM := ⟨none, 0, [], none, 0, [], 0, none, 0, [], none, 0, []⟩
/-- Trim's answer. -/
def TrimP (g : GramM) (e : Ending) (w' : World) : Prop :=
  if checkB g then ∃ L, Live g L ∧ ((lv L g.start = false ∧ e = .returned (.tuple #[gramV zeroG, .int .i64 161])) ∨ (lv L g.start = true ∧ ∃ R h, ReachL g L R ∧ KeptM g R h ∧ GIn w' h ∧ NilOK h ∧ e = .returned (.tuple #[gramV h, .int .i64 0])))
  else e = .returned (.tuple #[gramV zeroG, .int .i64 160])
theorem cells5 {W : World} {B : Nat} {u0 u1 u2 u3 u4 : Value} (h : Blk W B 27 #[u0, u1, u2, u3, u4]) : W.cell? ⟨B, 0, none⟩ = some u0 ∧ W.cell? ⟨B, 1, none⟩ = some u1 ∧ W.cell? ⟨B, 2, none⟩ = some u2 ∧ W.cell? ⟨B, 3, none⟩ = some u3 ∧ W.cell? ⟨B, 4, none⟩ = some u4 :=
  ⟨h.cell 0, h.cell 1, h.cell 2, h.cell 3, h.cell 4⟩
theorem frz5 {W : World} {B : Nat} {cs : Array Value} (h : Blk W B 27 cs) : W.frozen? ⟨B, 0, none⟩ = false ∧ W.frozen? ⟨B, 1, none⟩ = false ∧ W.frozen? ⟨B, 2, none⟩ = false ∧ W.frozen? ⟨B, 3, none⟩ = false ∧ W.frozen? ⟨B, 4, none⟩ = false :=
  ⟨h.frozen 0, h.frozen 1, h.frozen 2, h.frozen 3, h.frozen 4⟩
/-- Five cells written. -/
def put5 (W : World) (B : Nat) (u0 u1 u2 u3 u4 : Value) : World := ((((W.setCell ⟨B, 0, none⟩ u0).setCell ⟨B, 1, none⟩ u1).setCell ⟨B, 2, none⟩ u2).setCell ⟨B, 3, none⟩ u3).setCell ⟨B, 4, none⟩ u4
theorem Blk.put5 {W : World} {B : Nat} {v0 v1 v2 v3 v4 : Value} (h : Blk W B 27 #[v0, v1, v2, v3, v4]) (u0 u1 u2 u3 u4 : Value) : Blk (put5 W B u0 u1 u2 u3 u4) B 27 #[u0, u1, u2, u3, u4] := by
  have := ((((h.set 0 u0).set 1 u1).set 2 u2).set 3 u3).set 4 u4
  simpa [Ytiihdbchchnncaa.put5] using this
theorem put5_block {W : World} {B k : Nat} (u0 u1 u2 u3 u4 : Value) (h : k ≠ B) : (Ytiihdbchchnncaa.put5 W B u0 u1 u2 u3 u4).heap[k]? = W.heap[k]? := by
  unfold Ytiihdbchchnncaa.put5
  rw [Below.heap_setCell _ ⟨B, 4, none⟩ _ k h, Below.heap_setCell _ ⟨B, 3, none⟩ _ k h, Below.heap_setCell _ ⟨B, 2, none⟩ _ k h, Below.heap_setCell _ ⟨B, 1, none⟩ _ k h, Below.heap_setCell _ ⟨B, 0, none⟩ _ k h]
theorem below_put5 {N : Nat} {w W : World} (h : Below N w W) {B : Nat} (hB : N ≤ B) (u0 u1 u2 u3 u4 : Value) : Below N w (put5 W B u0 u1 u2 u3 u4) :=
  ((((h.setCell (p := ⟨B, 0, none⟩) hB u0).setCell (p := ⟨B, 1, none⟩) hB u1).setCell (p := ⟨B, 2, none⟩) hB u2).setCell (p := ⟨B, 3, none⟩) hB u3).setCell (p := ⟨B, 4, none⟩) hB u4

set_option maxRecDepth 100000 in
set_option maxHeartbeats 2000000 in
theorem trim_any (g : GramM) (w : World) (hg : GIn w g) (hf : FitG g) (hnil : NilOK g) : Calls Try.prog 25 #[gramV g] w fun e w' => TrimP g e w' ∧ Below w.heap.size w w' := by
  obtain ⟨W1, hW1⟩ : ∃ W1, W1 = (w.alloc (.cells (gramC g) 27)).alloc (.cells #[.slice none 0 0, .slice none 0 0, .int .i64 0, .slice none 0 0, .slice none 0 0] 27) := ⟨_, rfl⟩
  have hs1 : W1.heap.size = w.heap.size + 1 + 1 := by rw [hW1]; simp
  have hB1 : Below w.heap.size w W1 := by rw [hW1]; exact ((Below.refl _ _).alloc (Nat.le_refl _) _).alloc (by simp) _
  have hk : Blk W1 w.heap.size 27 (gramC g) := by rw [hW1]; exact (Blk.new w 27 (gramC g)).alloc _
  have hr : Blk W1 (w.heap.size + 1) 27 #[.slice none 0 0, .slice none 0 0, .int .i64 0, .slice none 0 0, .slice none 0 0] := by
    have h := Blk.new (w.alloc (.cells (gramC g) 27)) 27 #[.slice none 0 0, .slice none 0 0, .int .i64 0, .slice none 0 0, .slice none 0 0]
    rw [World.size_alloc] at h
    rw [hW1]; exact h
  have HCk := Lib.hid (check_any g _ (hg.below hB1) hf)
  have HG := Lib.hid hg
  have HB := Lib.hid hB1
  have HK := Lib.hid hk
  have HR := Lib.hid hr
  have HFit := Lib.hid hf
  have HNil := Lib.hid hnil
  have HW1 := Lib.hid hW1
  have hl0 := hk.lt
  have hl1 := hr.lt
  obtain ⟨c0, c1, c2, c3, c4⟩ := cells5 hk
  obtain ⟨f0, f1, f2, f3, f4⟩ := frz5 hr
  clear hg hf hB1 hk hr hW1 hnil hs1
  cases hq : checkB g with
  | false =>
    have HP : Hid (∀ w', TrimP g (.returned (.tuple #[gramV zeroG, .int .i64 160])) w') := Lib.hid (fun w' => by unfold TrimP; rw [hq]; rfl)
    rw [hq] at HCk
    clear hq
    unfold gramV gramC at *
    have he : errI false = 160 := rfl
    rw [he] at HCk
    clear he
    go_enter Try.func25, Try.ntmps25
    go_wp2_with fail
    rw [← HW1.out]
    refine HCk.out.mono ?_
    rintro e w3 ⟨rfl, hB3⟩
    have HR3 := Lib.hid (HR.out.below hB3 HR.out.lt)
    have HB3 := Lib.hid (HB.out.trans (hB3.mono HB.out.size))
    obtain ⟨f0, f1, f2, f3, f4⟩ := frz5 HR3.out
    obtain ⟨b0, b1, b2, b3, b4⟩ := cells5 HR3.out
    have l3 := HR3.out.lt
    clear hB3
    go_wp2
    obtain ⟨WF, hWF⟩ : ∃ W, W = put5 w3 (w.heap.size + 1) (.slice none 0 0) (.slice none 0 0) (.int .i64 0) (.slice none 0 0) (.slice none 0 0) := ⟨_, rfl⟩
    obtain ⟨q0, q1, q2, q3, q4⟩ := cells5 (HR3.out.put5 (.slice none 0 0) (.slice none 0 0) (.int .i64 0) (.slice none 0 0) (.slice none 0 0))
    have HBF := Lib.hid (below_put5 HB3.out (Nat.le_succ w.heap.size) (.slice none 0 0) (.slice none 0 0) (.int .i64 0) (.slice none 0 0) (.slice none 0 0))
    rw [← hWF] at q0 q1 q2 q3 q4 HBF
    unfold put5 at hWF
    rw [← hWF]
    refine bodyPost_ret (v := .tuple #[.agg #[.slice none 0 0, .slice none 0 0, .int .i64 0, .slice none 0 0, .slice none 0 0], .int .i64 160]) (by simp [results, Try.results25, go_sem, q0, q1, q2, q3, q4]) rfl ⟨HP.out _, HBF.out⟩
  | true =>
    have hm := mayB_of hq
    obtain ⟨stn, hst, hstn⟩ := hm.start
    have HM := Lib.hid hm
    have HPr := Lib.hid (fun W (hW : Below w.heap.size w W) => productive_any g hm HFit.out.fit W (HG.out.below hW))
    have HRe := Lib.hid (fun L (hL : L.length = g.sorts.length) W (hW : Below w.heap.size w W) aL cL hrow => reached_any g hm L hL W (HG.out.below hW) aL cL hrow)
    have HKe := Lib.hid (fun R (hR : R.length = g.sorts.length) W (hW : Below w.heap.size w W) aL cL hrow => kept_any g hm HFit.out.fit HNil.out R hR W (HG.out.below hW) aL cL hrow)
    have HP1 : Hid (∀ L w', Live g L → lv L stn = false → TrimP g (.returned (.tuple #[gramV zeroG, .int .i64 161])) w') := Lib.hid (fun L w' h1 h2 => by unfold TrimP; rw [hq]; exact ⟨L, h1, .inl ⟨by rw [hst]; exact h2, rfl⟩⟩)
    have HP2 : Hid (∀ L R h w', Live g L → lv L stn = true → ReachL g L R → KeptM g R h → GIn w' h → NilOK h → TrimP g (.returned (.tuple #[gramV h, .int .i64 0])) w') := Lib.hid (fun L R h w' h1 h2 h3 h4 h5 h6 => by
      unfold TrimP; rw [hq]; exact ⟨L, h1, .inr ⟨by rw [hst]; exact h2, R, h, h3, h4, h5, h6, rfl⟩⟩)
    rw [hq] at HCk
    have HSt := Lib.hid hst
    clear hq hm hst
    have hms := HM.out.sorts2
    unfold gramV at *
    unfold gramC at HCk HK HW1 ⊢
    rw [HSt.out] at HCk HK c2 HW1 ⊢
    have he : errI true = 0 := rfl
    rw [he] at HCk
    clear he
    go_enter Try.func25, Try.ntmps25
    go_wp2_with fail
    rw [← HW1.out]
    refine HCk.out.mono ?_
    rintro e w3 ⟨rfl, hB3⟩
    have HB3 := Lib.hid (HB.out.trans (hB3.mono HB.out.size))
    have HK3 := Lib.hid (HK.out.below hB3 HK.out.lt)
    have HR3 := Lib.hid (HR.out.below hB3 HR.out.lt)
    obtain ⟨c0, c1, c2, c3, c4⟩ := cells5 HK3.out
    have l3 := HK3.out.lt
    have HPr3 := Lib.hid (HPr.out w3 HB3.out)
    unfold gramC at HPr3
    rw [HSt.out] at HPr3
    clear hB3 HPr
    go_wp2_with fail
    with_reducible refine HPr3.out.mono ?_
    rintro e w4 ⟨L, hLv, rfl, hq4, hB4⟩
    have HB4 := Lib.hid (HB3.out.trans (hB4.mono HB3.out.size))
    have HK4 := Lib.hid (HK3.out.below hB4 HK3.out.lt)
    have HR4 := Lib.hid (HR3.out.below hB4 HR3.out.lt)
    obtain ⟨d0, d1, d2, d3, d4⟩ := cells5 HK4.out
    have l4 := HK4.out.lt
    have HLv := Lib.hid hLv
    have hLl := hLv.1
    have e1 := (hq4.cell stn).trans (bools_at L stn (by rw [hLl]; exact hstn))
    have n1 : (stn : Int) < (L.length : Int) := by omega
    have HRe4 := Lib.hid (HRe.out L hLl w4.drew HB4.out.drew (some ⟨w3.heap.size + 1, 0, none⟩) L.length hq4.drew.row)
    unfold gramC at HRe4
    have hd : w4.drew.heap.size = w4.heap.size := rfl
    rw [HSt.out, hd] at HRe4
    clear hd hLl
    clear hLv hB4 HPr3 HRe c0 c1 c2 c3 c4
    cases h1 : lv L (stn : Int) with
    | false =>
      rw [h1] at e1
      have HF := Lib.hid (fun w' => HP1.out L w' HLv.out h1)
      clear h1 HRe4
      obtain ⟨f0, f1, f2, f3, f4⟩ := frz5 HR4.out
      obtain ⟨b0, b1, b2, b3, b4⟩ := cells5 HR4.out
      have l5 := HR4.out.lt
      go_wp2
      obtain ⟨WF, hWF⟩ : ∃ W, W = put5 w4 (w.heap.size + 1) (.slice none 0 0) (.slice none 0 0) (.int .i64 0) (.slice none 0 0) (.slice none 0 0) := ⟨_, rfl⟩
      obtain ⟨q0, q1, q2, q3, q4⟩ := cells5 (HR4.out.put5 (.slice none 0 0) (.slice none 0 0) (.int .i64 0) (.slice none 0 0) (.slice none 0 0))
      have HBF := Lib.hid (below_put5 HB4.out (Nat.le_succ w.heap.size) (.slice none 0 0) (.slice none 0 0) (.int .i64 0) (.slice none 0 0) (.slice none 0 0))
      rw [← hWF] at q0 q1 q2 q3 q4 HBF
      unfold put5 at hWF
      rw [← hWF]
      refine bodyPost_ret (v := .tuple #[.agg #[.slice none 0 0, .slice none 0 0, .int .i64 0, .slice none 0 0, .slice none 0 0], .int .i64 161]) (by simp [results, Try.results25, go_sem, q0, q1, q2, q3, q4]) rfl ⟨HF.out _, HBF.out⟩
    | true =>
      rw [h1] at e1
      have HF := Lib.hid (fun R h w' => HP2.out L R h w' HLv.out h1)
      clear h1 hq4
      have hne : ¬ (w.heap.size + 1 = w.heap.size) := by omega
      go_wp2_with fail
      go_region_held2 (fun W => W.cell? ⟨w.heap.size, 0, none⟩ = some (.slice g.sa g.sorts.length g.sc) ∧ W.cell? ⟨w.heap.size, 1, none⟩ = some (.slice g.pa g.prods.length g.pc) ∧ W.cell? ⟨w.heap.size, 2, none⟩ = some (.int .i64 (stn : Int)) ∧ W.cell? ⟨w.heap.size, 3, none⟩ = some (.slice g.fa g.forbid.length g.fc)
          ∧ W.cell? ⟨w.heap.size, 4, none⟩ = some (.slice g.wa g.follow.length g.wc)) (go_keep)
        (first
          | (go_at_call 37; (with_reducible refine HRe4.out.mono ?_); rintro e w5 ⟨R, hR, rfl, hq5, hB5⟩; have HB5 := Lib.hid (HB4.out.drew.trans (hB5.mono HB4.out.size)); have HK5 := Lib.hid (HK4.out.drew.below hB5 HK4.out.lt); have HR5 := Lib.hid (HR4.out.drew.below hB5 HR4.out.lt); obtain ⟨g0, g1, g2, g3, g4⟩ := cells5 HK5.out; have HKe5 := Lib.hid (HKe.out R hR.1 w5 HB5.out (some ⟨w4.heap.size + 1 + 1, 0, none⟩) R.length hq5.row); unfold gramC at HKe5; rw [HSt.out] at HKe5; have HRL := Lib.hid hR; clear hR hq5 hB5)
          | (go_at_call 53; (with_reducible refine HKe5.out.mono ?_); rintro e w6 ⟨h, rfl, hkm, hgi, hni, hB6⟩; have HB6 := Lib.hid (HB5.out.trans (hB6.mono HB5.out.size)); have HK6 := Lib.hid (HK5.out.below hB6 HK5.out.lt); have HR6 := Lib.hid (HR5.out.below hB6 HR5.out.lt); obtain ⟨g0, g1, g2, g3, g4⟩ := cells5 HK6.out; obtain ⟨f0, f1, f2, f3, f4⟩ := frz5 HR6.out; obtain ⟨b0, b1, b2, b3, b4⟩ := cells5 HR6.out; have l6 := HR6.out.lt; have HKM := Lib.hid hkm; have HGI := Lib.hid hgi; have HNI := Lib.hid hni; clear hkm hgi hni hB6))
      obtain ⟨WF, hWF⟩ : ∃ W, W = put5 w6 (w.heap.size + 1) (.slice h.sa h.sorts.length h.sc) (.slice h.pa h.prods.length h.pc) (.int .i64 h.start) (.slice h.fa h.forbid.length h.fc) (.slice h.wa h.follow.length h.wc) := ⟨_, rfl⟩
      obtain ⟨q0, q1, q2, q3, q4⟩ := cells5 (HR6.out.put5 (.slice h.sa h.sorts.length h.sc) (.slice h.pa h.prods.length h.pc) (.int .i64 h.start) (.slice h.fa h.forbid.length h.fc) (.slice h.wa h.follow.length h.wc))
      have HBF := Lib.hid (below_put5 HB6.out (Nat.le_succ w.heap.size) (.slice h.sa h.sorts.length h.sc) (.slice h.pa h.prods.length h.pc) (.int .i64 h.start) (.slice h.fa h.forbid.length h.fc) (.slice h.wa h.follow.length h.wc))
      have HGF : Hid (GIn WF h) := Lib.hid (HGI.out WF (fun k hk _ => by
        have h5 := HR5.out.lt
        rw [hWF]
        exact put5_block _ _ _ _ _ (by omega)))
      rw [← hWF] at q0 q1 q2 q3 q4 HBF
      unfold put5 at hWF
      rw [← hWF]
      go_wp2
      refine bodyPost_ret (v := .tuple #[.agg #[.slice h.sa h.sorts.length h.sc, .slice h.pa h.prods.length h.pc, .int .i64 h.start, .slice h.fa h.forbid.length h.fc, .slice h.wa h.follow.length h.wc], .int .i64 0]) (by simp [results, Try.results25, go_sem, q0, q1, q2, q3, q4]) rfl ⟨HF.out R h _ HRL.out HKM.out HGF.out HNI.out, HBF.out⟩
end Go.Proofs.Ytiihdbchchnncaa
end
section
namespace Go.Proofs.Ytiihdbchchnncaa
open Go Go.RowKit

def lx : BS := 1#256 <<< 120
def la : BS := 1#256 <<< 97
theorem lx_w : vset lx = .agg #[.int .u64 0, .int .u64 72057594037927936, .int .u64 0, .int .u64 0] := by
  unfold vset
  rw [show wdI lx 0 = 0 by decide +kernel, show wdI lx 1 = 72057594037927936 by decide +kernel, show wdI lx 2 = 0 by decide +kernel, show wdI lx 3 = 0 by decide +kernel]
theorem la_w : vset la = .agg #[.int .u64 0, .int .u64 8589934592, .int .u64 0, .int .u64 0] := by
  unfold vset
  rw [show wdI la 0 = 0 by decide +kernel, show wdI la 1 = 8589934592 by decide +kernel, show wdI la 2 = 0 by decide +kernel, show wdI la 3 = 0 by decide +kernel]

set_option maxRecDepth 100000 in
set_option maxHeartbeats 2000000 in
theorem letter_x (w : World) : Calls Try.prog 27 #[.int .u8 120] w fun e w' => e = .returned (vset lx) ∧ Below w.heap.size w w' := by
  rw [lx_w]
  have hb := (Blk.new w 66 #[.int .u64 0, .int .u64 72057594037927936, .int .u64 0, .int .u64 0]).alloc (.cells #[.int .u64 0, .int .u64 72057594037927936, .int .u64 0, .int .u64 0] 66)
  have hB : Below w.heap.size w ((w.alloc (.cells #[.int .u64 0, .int .u64 72057594037927936, .int .u64 0, .int .u64 0] 66)).alloc (.cells #[.int .u64 0, .int .u64 72057594037927936, .int .u64 0, .int .u64 0] 66)) := ((Below.refl _ _).alloc (Nat.le_refl _) _).alloc (by simp) _
  have HB := Lib.hid hB
  have q0 := hb.cell 0
  have q1 := hb.cell 1
  have q2 := hb.cell 2
  have q3 := hb.cell 3
  simp only [List.getElem?_toArray, List.getElem?_cons_zero, List.getElem?_cons_succ] at q0 q1 q2 q3
  clear hb hB
  go_enter Try.func27, Try.ntmps27
  go_wp2
  refine bodyPost_ret (v := .agg #[.int .u64 0, .int .u64 72057594037927936, .int .u64 0, .int .u64 0]) (by simp [results, Try.results27, go_sem, q0, q1, q2, q3]) rfl ⟨rfl, ?_⟩
  exact HB.out

set_option maxRecDepth 100000 in
set_option maxHeartbeats 2000000 in
theorem letter_a (w : World) : Calls Try.prog 27 #[.int .u8 97] w fun e w' => e = .returned (vset la) ∧ Below w.heap.size w w' := by
  rw [la_w]
  have hb := (Blk.new w 66 #[.int .u64 0, .int .u64 8589934592, .int .u64 0, .int .u64 0]).alloc (.cells #[.int .u64 0, .int .u64 8589934592, .int .u64 0, .int .u64 0] 66)
  have hB : Below w.heap.size w ((w.alloc (.cells #[.int .u64 0, .int .u64 8589934592, .int .u64 0, .int .u64 0] 66)).alloc (.cells #[.int .u64 0, .int .u64 8589934592, .int .u64 0, .int .u64 0] 66)) := ((Below.refl _ _).alloc (Nat.le_refl _) _).alloc (by simp) _
  have HB := Lib.hid hB
  have q0 := hb.cell 0
  have q1 := hb.cell 1
  have q2 := hb.cell 2
  have q3 := hb.cell 3
  simp only [List.getElem?_toArray, List.getElem?_cons_zero, List.getElem?_cons_succ] at q0 q1 q2 q3
  clear hb hB
  go_enter Try.func27, Try.ntmps27
  go_wp2
  refine bodyPost_ret (v := .agg #[.int .u64 0, .int .u64 8589934592, .int .u64 0, .int .u64 0]) (by simp [results, Try.results27, go_sem, q0, q1, q2, q3]) rfl ⟨rfl, ?_⟩
  exact HB.out

set_option maxRecDepth 100000 in
set_option maxHeartbeats 2000000 in
theorem sortSym_any (i : Int) (w : World) : Calls Try.prog 30 #[.int .i64 i] w fun e w' => e = .returned (symV ⟨1, 0, i⟩) ∧ Below w.heap.size w w' := by
  have hz : symV ⟨1, 0, i⟩ = .agg #[.int .i64 1, .int .u64 0, .int .u64 0, .int .u64 0, .int .u64 0, .int .i64 i] := by
    unfold symV symC
    rw [show wdI (0 : BS) 0 = 0 by decide +kernel, show wdI (0 : BS) 1 = 0 by decide +kernel, show wdI (0 : BS) 2 = 0 by decide +kernel, show wdI (0 : BS) 3 = 0 by decide +kernel]
  rw [hz]
  have hb := Blk.new w 68 #[.int .i64 1, .int .u64 0, .int .u64 0, .int .u64 0, .int .u64 0, .int .i64 i]
  have HB : Hid (Below w.heap.size w (w.alloc (.cells #[.int .i64 1, .int .u64 0, .int .u64 0, .int .u64 0, .int .u64 0, .int .i64 i] 68))) := Lib.hid ((Below.refl _ _).alloc (Nat.le_refl _) _)
  have q0 := hb.cell 0
  have q1 := hb.cell 1
  have q2 := hb.cell 2
  have q3 := hb.cell 3
  have q4 := hb.cell 4
  have q5 := hb.cell 5
  simp only [List.getElem?_toArray, List.getElem?_cons_zero, List.getElem?_cons_succ] at q0 q1 q2 q3 q4 q5
  clear hb hz
  go_enter Try.func30, Try.ntmps30
  go_wp2
  refine bodyPost_ret (v := .agg #[.int .i64 1, .int .u64 0, .int .u64 0, .int .u64 0, .int .u64 0, .int .i64 i]) (by simp [results, Try.results30, go_sem, q0, q1, q2, q3, q4, q5]) rfl ⟨rfl, HB.out⟩

/-- The grammar that the laws know. -/
def G0 : GramM := ⟨none, 0, [⟨#[83]⟩, ⟨#[65]⟩, ⟨#[66]⟩], none, 0,
  [⟨0, none, 0, [⟨1, 0, 1⟩], ⟨#[]⟩, 0, false, false, -1⟩, ⟨0, none, 0, [⟨0, lx, 0⟩, ⟨1, 0, 0⟩], ⟨#[]⟩, 0, false, false, -1⟩, ⟨1, none, 0, [⟨0, la, 0⟩], ⟨#[]⟩, 0, false, false, -1⟩, ⟨2, none, 0, [⟨1, 0, 2⟩], ⟨#[]⟩, 0, false, false, -1⟩],
  0, none, 0, [], none, 0, []⟩
theorem G0_check : checkB G0 = true := by decide +kernel
theorem G0_find : findN ⟨#[65]⟩ G0.sorts = some 1 := by decide +kernel
end Go.Proofs.Ytiihdbchchnncaa
end
section
namespace Go.Proofs.Ytiihdbchchnncaa
open Go Go.RowKit

/-- The grammar that the laws know, with where its lists lie. -/
def GK (sa pa r0 r1 r2 r3 : Option Addr) : GramM := ⟨sa, 3, [⟨#[83]⟩, ⟨#[65]⟩, ⟨#[66]⟩], pa, 4,
  [⟨0, r0, 1, [⟨1, 0, 1⟩], ⟨#[]⟩, 0, false, false, -1⟩, ⟨0, r1, 2, [⟨0, lx, 0⟩, ⟨1, 0, 0⟩], ⟨#[]⟩, 0, false, false, -1⟩, ⟨1, r2, 1, [⟨0, la, 0⟩], ⟨#[]⟩, 0, false, false, -1⟩, ⟨2, r3, 1, [⟨1, 0, 2⟩], ⟨#[]⟩, 0, false, false, -1⟩],
  0, none, 0, [], none, 0, []⟩
section
variable (sa pa r0 r1 r2 r3 : Option Addr)
theorem GK_check : checkB (GK sa pa r0 r1 r2 r3) = true := by kernel_rfl
theorem GK_find : findN ⟨#[65]⟩ (GK sa pa r0 r1 r2 r3).sorts = some 1 := by kernel_rfl
theorem GK_pv1 : PV (GK sa pa r0 r1 r2 r3) 1 := by
  refine PV.mk (g := GK sa pa r0 r1 r2 r3) ⟨1, r2, 1, [⟨0, la, 0⟩], ⟨#[]⟩, 0, false, false, -1⟩ (by simp [GK]) (show (0 : Int) ≠ 11 by decide) ?_
  intro s hs hk
  simp at hs
  subst hs
  simp at hk
theorem GK_pv0 : PV (GK sa pa r0 r1 r2 r3) 0 := by
  refine PV.mk (g := GK sa pa r0 r1 r2 r3) ⟨0, r0, 1, [⟨1, 0, 1⟩], ⟨#[]⟩, 0, false, false, -1⟩ (by simp [GK]) (show (0 : Int) ≠ 11 by decide) ?_
  intro s hs _
  simp at hs
  subst hs
  exact GK_pv1 sa pa r0 r1 r2 r3
theorem GK_live : Live (GK sa pa r0 r1 r2 r3) [true, true, false] := by
  refine live_of (by simp [GK]) ?_ ?_
  · intro k hk
    match k with
    | 0 => exact GK_pv0 sa pa r0 r1 r2 r3
    | 1 => exact GK_pv1 sa pa r0 r1 r2 r3
    | 2 => simp at hk
    | k + 3 => simp at hk
  · intro x hx hok
    simp only [GK, List.mem_cons, List.not_mem_nil, or_false] at hx
    rcases hx with rfl | rfl | rfl | rfl
    · rfl
    · rfl
    · rfl
    · exact absurd (hok.symm.trans (show okP [true, true, false] ⟨2, r3, 1, [⟨1, 0, 2⟩], ⟨#[]⟩, 0, false, false, -1⟩ = false from rfl)) (by decide)
theorem GK_is {L : List Bool} (h : Live (GK sa pa r0 r1 r2 r3) L) : L = [true, true, false] := h.unique (GK_live sa pa r0 r1 r2 r3)
theorem GK_well {r : Int × Int} (h : WellP (GK sa pa r0 r1 r2 r3) r) : r = (161, 2) := by
  unfold WellP at h
  rw [GK_check, if_pos rfl] at h
  obtain ⟨L, hL, h⟩ := h
  rw [GK_is _ _ _ _ _ _ hL] at h
  rcases h with ⟨_, h⟩ | ⟨h, _⟩
  · exact h
  · exact absurd h (by decide)
theorem GK_reach {R : List Bool} (h : ReachL (GK sa pa r0 r1 r2 r3) [true, true, false] R) : R = [true, true, false] := by
  obtain ⟨hl, hR⟩ := h
  have h0 : R[0]? = some true := (hR 0).2 .refl
  have h1 : R[1]? = some true := (hR 1).2 (.step .refl ⟨⟨0, r0, 1, [⟨1, 0, 1⟩], ⟨#[]⟩, 0, false, false, -1⟩, by simp [GK], rfl, rfl, ⟨1, 0, 1⟩, by simp, rfl, rfl⟩)
  have hno : ∀ k, RF (GK sa pa r0 r1 r2 r3) [true, true, false] 0 k → k ≤ 1 := fun k hk => by
    induction hk with
    | refl => exact Nat.zero_le _
    | step _ e ih =>
      obtain ⟨x, hx, hl, hs, s, hsm, hk, ht⟩ := e
      simp only [GK, List.mem_cons, List.not_mem_nil, or_false] at hx
      rcases hx with rfl | rfl | rfl | rfl
      · simp at hsm; subst hsm; simp at ht; omega
      · simp at hsm
        rcases hsm with rfl | rfl
        · simp at hk
        · simp at ht; omega
      · simp at hsm; subst hsm; simp at hk
      · simp at hl; omega
  have h2 : R[2]? ≠ some true := fun h => by
    have := hno 2 ((hR 2).1 h)
    omega
  have hl3 : R.length = 3 := hl
  match R, hl3 with
  | [a, b, c], _ =>
    simp at h0 h1 h2
    rw [h0, h1, h2]
/-- What Trim makes of it. -/
theorem GK_trim {e : Ending} {w' : World} (h : TrimP (GK sa pa r0 r1 r2 r3) e w') : ∃ h, h.sorts.length = 2 ∧ h.prods.length = 3 ∧ GIn w' h ∧ e = .returned (.tuple #[gramV h, .int .i64 0]) := by
  unfold TrimP at h
  rw [GK_check, if_pos rfl] at h
  obtain ⟨L, hL, h⟩ := h
  rw [GK_is _ _ _ _ _ _ hL] at h
  rcases h with ⟨h, _⟩ | ⟨_, R, h, hR, hK, hG, _, he⟩
  · exact absurd h (show ¬ (true = false) by decide)
  · rw [GK_reach _ _ _ _ _ _ hR] at hK
    refine ⟨h, ?_, ?_, hG, he⟩
    · rw [hK.sorts]; rfl
    · have := congrArg List.length hK.prods
      rw [List.length_map, List.length_map] at this
      rw [this]; rfl
theorem GK_of {e : Ending} {w' : World} (h : OfP (GK sa pa r0 r1 r2 r3) 0 e w') : ∃ a c, e = .returned (.tuple #[.slice a 2 c, .int .i64 0]) := by
  unfold OfP at h
  rw [GK_check, if_pos rfl, if_pos (show numB 0 (GK sa pa r0 r1 r2 r3).sorts.length = true by kernel_rfl)] at h
  obtain ⟨a, c, h, _⟩ := h
  exact ⟨a, c, h⟩
/-- The tree that the laws know. -/
def TK (a b : Option Addr) : TreeM := .node 0 0 a 1 [.node 2 0 b 1 [.node (-1) 97 none 0 []]]
theorem TK_nest (a b : Option Addr) : nestB 16384 (TK a b) = true := by kernel_rfl
theorem TK_tree (a b : Option Addr) : treeB (GK sa pa r0 r1 r2 r3) 16384 (TK a b) = true := by kernel_rfl
theorem TK_yield (a b : Option Addr) : strOfNums (yieldL 16384 (TK a b)) = ⟨#[97]⟩ := by kernel_rfl
theorem TK_ct (a b : Option Addr) : ctI (GK sa pa r0 r1 r2 r3) (TK a b) = 0 := by
  unfold ctI
  rw [GK_check, TK_nest, TK_tree]; rfl
end
theorem zeroG_check : checkB zeroG = false := by kernel_rfl
end Go.Proofs.Ytiihdbchchnncaa
end
section
namespace Go.Proofs.Ytiihdbchchnncaa
open Go Go.RowKit

/-- A block that holds the cells of a list. -/
theorem row_blk {α : Type} {cs : α → Array Value} {k : Nat} {G : World → α → Prop} (hk : ∀ x, (cs x).size = k) {W : World} {B t : Nat} {c : Array Value} {l : List α} (h : Blk W B t c) (hc : c.toList = cellsL cs l) (hG : ∀ x, x ∈ l → G W x) :
    RowOf k cs G W (some ⟨B, 0, none⟩) l := fun i x hx => by
  refine ⟨B, 0, rfl, h.lt, fun j v hv => ?_, hG x (List.mem_of_getElem? hx)⟩
  have hj : j < k := by
    have := (Array.getElem?_eq_some_iff.1 hv).1
    rw [hk] at this; exact this
  rw [Nat.zero_add, h.cell, ← Array.getElem?_toList, hc, cellsL_at hk l i x hx j hj]
  exact hv

/-- Where the known grammar's lists lie. -/
structure GKIn (w : World) (sa pa r0 r1 r2 r3 : Nat) : Prop where
  s : Blk w sa 9 #[.string ⟨#[83]⟩, .string ⟨#[65]⟩, .string ⟨#[66]⟩]
  p : Blk w pa 46 #[.int .i64 0, .slice (some ⟨r0, 0, none⟩) 1 1, .string ⟨#[]⟩, .int .i64 0, .bool false, .bool false, .int .i64 (-1), .int .i64 0, .slice (some ⟨r1, 0, none⟩) 2 2, .string ⟨#[]⟩, .int .i64 0, .bool false, .bool false, .int .i64 (-1),
    .int .i64 1, .slice (some ⟨r2, 0, none⟩) 1 1, .string ⟨#[]⟩, .int .i64 0, .bool false, .bool false, .int .i64 (-1), .int .i64 2, .slice (some ⟨r3, 0, none⟩) 1 1, .string ⟨#[]⟩, .int .i64 0, .bool false, .bool false, .int .i64 (-1)]
  a0 : Blk w r0 68 (symC ⟨1, 0, 1⟩)
  a1 : Blk w r1 68 (symC ⟨0, lx, 0⟩ ++ symC ⟨1, 0, 0⟩)
  a2 : Blk w r2 68 (symC ⟨0, la, 0⟩)
  a3 : Blk w r3 68 (symC ⟨1, 0, 2⟩)
theorem GKIn.inn {w : World} {sa pa r0 r1 r2 r3 : Nat} (h : GKIn w sa pa r0 r1 r2 r3) : GIn w (GK (some ⟨sa, 0, none⟩) (some ⟨pa, 0, none⟩) (some ⟨r0, 0, none⟩) (some ⟨r1, 0, none⟩) (some ⟨r2, 0, none⟩) (some ⟨r3, 0, none⟩)) := by
  refine ⟨row_blk (cs := strC) (k := 1) (fun _ => rfl) h.s (by simp [cellsL, strC, GK]) (fun _ _ => trivial), row_blk (cs := prodC) (k := 7) (fun _ => rfl) h.p (by simp [cellsL, prodC, GK]) (fun x hx => ?_), RowOf.nil _, RowOf.nil _⟩
  simp only [GK, List.mem_cons, List.not_mem_nil, or_false] at hx
  rcases hx with rfl | rfl | rfl | rfl
  · exact row_blk (cs := symC) (k := 6) (fun _ => rfl) h.a0 (by simp [cellsL]) (fun _ _ => trivial)
  · exact row_blk (cs := symC) (k := 6) (fun _ => rfl) h.a1 (by simp [cellsL]) (fun _ _ => trivial)
  · exact row_blk (cs := symC) (k := 6) (fun _ => rfl) h.a2 (by simp [cellsL]) (fun _ _ => trivial)
  · exact row_blk (cs := symC) (k := 6) (fun _ => rfl) h.a3 (by simp [cellsL]) (fun _ _ => trivial)
theorem GKIn.below {w W : World} {sa pa r0 r1 r2 r3 : Nat} (h : GKIn w sa pa r0 r1 r2 r3) (hB : Below w.heap.size w W) : GKIn W sa pa r0 r1 r2 r3 :=
  ⟨h.s.below hB h.s.lt, h.p.below hB h.p.lt, h.a0.below hB h.a0.lt, h.a1.below hB h.a1.lt, h.a2.below hB h.a2.lt, h.a3.below hB h.a3.lt⟩
theorem GK_fit (sa pa r0 r1 r2 r3 : Option Addr) : FitG (GK sa pa r0 r1 r2 r3) := by
  refine ⟨⟨by simp [GK], by simp [GK], fun x hx => ?_, by simp [GK], by simp [GK], fun f hf => by simp [GK] at hf, fun s hs => ?_⟩, fun f hf => by simp [GK] at hf, fun f hf => by simp [GK] at hf⟩
  · simp only [GK, List.mem_cons, List.not_mem_nil, or_false] at hx
    rcases hx with rfl | rfl | rfl | rfl <;> simp
  · simp only [GK, List.mem_cons, List.not_mem_nil, or_false] at hs
    rcases hs with rfl | rfl | rfl <;> decide

theorem cells3 {W : World} {B : Nat} {u0 u1 u2 : Value} (h : Blk W B 51 #[u0, u1, u2]) : W.cell? ⟨B, 0, none⟩ = some u0 ∧ W.cell? ⟨B, 1, none⟩ = some u1 ∧ W.cell? ⟨B, 2, none⟩ = some u2 := ⟨h.cell 0, h.cell 1, h.cell 2⟩
/-- What the kernel answers of the known grammar. -/
structure KnownA (G : Value) (w : World) : Prop where
  we : ∀ W, Below w.heap.size w W → Calls Try.prog 13 #[G] W fun e w' => e = .returned (.tuple #[.int .i64 161, .int .i64 2]) ∧ Below W.heap.size W w'
  fi : ∀ W, Below w.heap.size w W → Calls Try.prog 16 #[G, .string ⟨#[65]⟩] W fun e w' => e = .returned (.tuple #[.int .i64 1, .bool true]) ∧ Below W.heap.size W w'
  tr : ∀ W, Below w.heap.size w W → Calls Try.prog 25 #[G] W fun e w' => ∃ h : GramM, h.sorts.length = 2 ∧ h.prods.length = 3 ∧ e = .returned (.tuple #[.agg (gramC h), .int .i64 0]) ∧ Below W.heap.size W w'
  of : ∀ W, Below w.heap.size w W → Calls Try.prog 17 #[G, .int .i64 0] W fun e w' => ∃ a c, e = .returned (.tuple #[.slice a 2 c, .int .i64 0]) ∧ Below W.heap.size W w'
  ck : ∀ W, Below w.heap.size w W → Calls Try.prog 15 #[G] W fun e w' => e = .returned (.int .i64 0) ∧ Below W.heap.size W w'
  ct : ∀ W a b, Below w.heap.size w W → TreeIn W (TK a b) → Calls Try.prog 22 #[G, treeV (TK a b)] W fun e w' => e = .returned (.int .i64 0) ∧ Below W.heap.size W w'
theorem TK_fit (a b : Option Addr) : TFit 16384 (TK a b) := by
  have h0 : TFit 16382 (.node (-1) 97 none 0 []) := by
    show TFit (16381 + 1) _
    rw [TFit]
    exact ⟨by simp, ⟨97, rfl, by decide⟩, fun k hk => by cases hk⟩
  have h1 : TFit 16383 (.node 2 0 b 1 [.node (-1) 97 none 0 []]) := by
    show TFit (16382 + 1) _
    rw [TFit]
    exact ⟨by simp, ⟨0, rfl, by decide⟩, fun k hk => by simp at hk; rw [hk]; exact h0⟩
  unfold TK
  show TFit (16383 + 1) _
  rw [TFit]
  exact ⟨by simp, ⟨0, rfl, by decide⟩, fun k hk => by simp at hk; rw [hk]; exact h1⟩
theorem knownA {w : World} {sa pa r0 r1 r2 r3 : Nat} (h : GKIn w sa pa r0 r1 r2 r3) : KnownA (.agg #[.slice (some ⟨sa, 0, none⟩) 3 3, .slice (some ⟨pa, 0, none⟩) 4 4, .int .i64 0, .slice none 0 0, .slice none 0 0]) w := by
  have hf := GK_fit (some ⟨sa, 0, none⟩) (some ⟨pa, 0, none⟩) (some ⟨r0, 0, none⟩) (some ⟨r1, 0, none⟩) (some ⟨r2, 0, none⟩) (some ⟨r3, 0, none⟩)
  have hn : NilOK (GK (some ⟨sa, 0, none⟩) (some ⟨pa, 0, none⟩) (some ⟨r0, 0, none⟩) (some ⟨r1, 0, none⟩) (some ⟨r2, 0, none⟩) (some ⟨r3, 0, none⟩)) := ⟨fun h => (by cases h), fun h => (by cases h), fun _ => rfl, fun _ => rfl, fun x hx hr => by
    simp only [GK, List.mem_cons, List.not_mem_nil, or_false] at hx
    rcases hx with rfl | rfl | rfl | rfl <;> cases hr⟩
  refine ⟨fun W hW => ?_, fun W hW => ?_, fun W hW => ?_, fun W hW => ?_, fun W hW => ?_, fun W a b hW ht => ?_⟩
  · refine (well_any _ W (h.below hW).inn hf).mono ?_
    rintro e w' ⟨r, hr, rfl, hB⟩
    rw [GK_well _ _ _ _ _ _ hr]
    exact ⟨rfl, hB⟩
  · refine (find_call _ ⟨#[65]⟩ (by decide) W (h.below hW).inn hf.fit).mono ?_
    rintro e w' ⟨rfl, hB⟩
    rw [GK_find]
    exact ⟨rfl, hB⟩
  · refine (trim_any _ W (h.below hW).inn hf hn).mono ?_
    rintro e w' ⟨ht, hB⟩
    obtain ⟨g, h1, h2, _, h4⟩ := GK_trim _ _ _ _ _ _ ht
    exact ⟨g, h1, h2, h4, hB⟩
  · refine (of_any _ 0 W (h.below hW).inn hf).mono ?_
    rintro e w' ⟨ho, hB⟩
    obtain ⟨a, c, h1⟩ := GK_of _ _ _ _ _ _ ho
    exact ⟨a, c, h1, hB⟩
  · refine (check_any _ W (h.below hW).inn hf).mono ?_
    rintro e w' ⟨rfl, hB⟩
    rw [GK_check]
    exact ⟨rfl, hB⟩
  · refine (checkTree_any _ (TK a b) W (h.below hW).inn hf ht (TK_fit a b)).mono ?_
    rintro e w' ⟨rfl, hB⟩
    rw [TK_ct]
    exact ⟨rfl, hB⟩
theorem known_yield (W : World) (a b : Option Addr) (ht : TreeIn W (TK a b)) : Calls Try.prog 21 #[treeV (TK a b)] W fun e w' => e = .returned (.tuple #[.string ⟨#[97]⟩, .int .i64 0]) ∧ Below W.heap.size W w' := by
  refine (yield_any (TK a b) W ht (TK_fit a b) (by rw [show (yieldL 16384 (TK a b)).length = 1 by kernel_rfl]; decide)).mono ?_
  rintro e w' ⟨rfl, hB⟩
  rw [TK_nest, if_pos rfl, TK_yield]
  exact ⟨rfl, hB⟩
theorem zero_check (W : World) : Calls Try.prog 15 #[.agg #[.slice none 0 0, .slice none 0 0, .int .i64 0, .slice none 0 0, .slice none 0 0]] W fun e w' => e = .returned (.int .i64 160) ∧ Below W.heap.size W w' := by
  have hf : FitG zeroG := by
    refine ⟨⟨by simp [zeroG], by simp [zeroG], fun x hx => by simp [zeroG] at hx, by simp [zeroG], by simp [zeroG], fun f hf => by simp [zeroG] at hf, fun s hs => by simp [zeroG] at hs⟩, fun f hf => by simp [zeroG] at hf, fun f hf => by simp [zeroG] at hf⟩
  have hg : GIn W zeroG := ⟨RowOf.nil _, RowOf.nil _, RowOf.nil _, RowOf.nil _⟩
  refine (check_any zeroG W hg hf).mono ?_
  rintro e w' ⟨rfl, hB⟩
  rw [zeroG_check]
  exact ⟨rfl, hB⟩

set_option maxRecDepth 100000 in
set_option maxHeartbeats 4000000 in
theorem known_any (w : World) : Calls Try.prog 10 #[] w fun e w' => e = .returned (.bool true) ∧ Below w.heap.size w w' := by
  have HS1 := Lib.hid (fun W => sortSym_any 1 W)
  have HS0 := Lib.hid (fun W => sortSym_any 0 W)
  have HS2 := Lib.hid (fun W => sortSym_any 2 W)
  have HLx := Lib.hid letter_x
  have HLa := Lib.hid letter_a
  obtain ⟨z, hz⟩ : ∃ z : BS, z = 0 := ⟨_, rfl⟩
  obtain ⟨bx, hbx⟩ : ∃ z : BS, z = lx := ⟨_, rfl⟩
  obtain ⟨ba, hba⟩ : ∃ z : BS, z = la := ⟨_, rfl⟩
  rw [← hz] at HS1 HS0 HS2
  rw [← hbx] at HLx
  rw [← hba] at HLa
  have HZ := Lib.hid hz
  have HX := Lib.hid hbx
  have HA := Lib.hid hba
  clear hz hbx hba
  unfold symV symC at HS1 HS0 HS2
  unfold vset at HLx HLa
  go_enter Try.func10, Try.ntmps10
  go_wp2_with fail
  have hk := Blk.new w 9 #[.string ⟨#[83]⟩, .string ⟨#[65]⟩, .string ⟨#[66]⟩]
  have hB0 : Below w.heap.size w (w.alloc (.cells #[.string ⟨#[83]⟩, .string ⟨#[65]⟩, .string ⟨#[66]⟩] 9)) := (Below.refl _ _).alloc (Nat.le_refl _) _
  have HK := Lib.hid hk
  have HB := Lib.hid hB0
  clear hk hB0
  with_reducible refine (HS1.out _).mono ?_
  rintro e w1 ⟨rfl, hB1⟩
  have HK1 := Lib.hid (HK.out.below hB1 HK.out.lt)
  have HB1 := Lib.hid (HB.out.trans (hB1.mono HB.out.size))
  clear hB1 HK HB HS1
  go_wp2_with fail
  with_reducible refine (HLx.out _).mono ?_
  rintro e w2 ⟨rfl, hB2⟩
  have hA1 : Below w1.heap.size w1 (w1.alloc (.cells #[.int .i64 1, .int .u64 (wdI z 0), .int .u64 (wdI z 1), .int .u64 (wdI z 2), .int .u64 (wdI z 3), .int .i64 1] 68)) := (Below.refl _ _).alloc (Nat.le_refl _) _
  have hr0 := Blk.new w1 68 #[.int .i64 1, .int .u64 (wdI z 0), .int .u64 (wdI z 1), .int .u64 (wdI z 2), .int .u64 (wdI z 3), .int .i64 1]
  have HR0 := Lib.hid (hr0.below hB2 hr0.lt)
  have HK2 := Lib.hid ((HK1.out.below hA1 HK1.out.lt).below hB2 (Nat.lt_of_lt_of_le HK1.out.lt hA1.size))
  have HB2 := Lib.hid (HB1.out.trans ((hA1.trans (hB2.mono hA1.size)).mono HB1.out.size))
  clear hA1 hr0 hB2 HK1 HB1 HLx
  go_wp2_with fail
  with_reducible refine (HS0.out _).mono ?_
  rintro e w3 ⟨rfl, hB3⟩
  have HK3 := Lib.hid (HK2.out.below hB3 HK2.out.lt)
  have HR03 := Lib.hid (HR0.out.below hB3 HR0.out.lt)
  have HB3 := Lib.hid (HB2.out.trans (hB3.mono HB2.out.size))
  clear hB3 HK2 HR0 HB2 HS0
  go_wp2_with fail
  with_reducible refine (HLa.out _).mono ?_
  rintro e w4 ⟨rfl, hB4⟩
  have hA3 : Below w3.heap.size w3 (w3.alloc (.cells #[.int .i64 0, .int .u64 (wdI bx 0), .int .u64 (wdI bx 1), .int .u64 (wdI bx 2), .int .u64 (wdI bx 3), .int .i64 0, .int .i64 1, .int .u64 (wdI z 0), .int .u64 (wdI z 1), .int .u64 (wdI z 2), .int .u64 (wdI z 3), .int .i64 0] 68)) := (Below.refl _ _).alloc (Nat.le_refl _) _
  have hr1 := Blk.new w3 68 #[.int .i64 0, .int .u64 (wdI bx 0), .int .u64 (wdI bx 1), .int .u64 (wdI bx 2), .int .u64 (wdI bx 3), .int .i64 0, .int .i64 1, .int .u64 (wdI z 0), .int .u64 (wdI z 1), .int .u64 (wdI z 2), .int .u64 (wdI z 3), .int .i64 0]
  have HR14 := Lib.hid (hr1.below hB4 hr1.lt)
  have hB34 := hA3.trans (hB4.mono hA3.size)
  have HK4 := Lib.hid (HK3.out.below hB34 HK3.out.lt)
  have HR04 := Lib.hid (HR03.out.below hB34 HR03.out.lt)
  have HB4 := Lib.hid (HB3.out.trans (hB34.mono HB3.out.size))
  clear hA3 hr1 hB4 hB34 HK3 HR03 HB3 HLa
  go_wp2_with fail
  with_reducible refine (HS2.out _).mono ?_
  rintro e w5 ⟨rfl, hB5⟩
  have hA4 : Below w4.heap.size w4 (w4.alloc (.cells #[.int .i64 0, .int .u64 (wdI ba 0), .int .u64 (wdI ba 1), .int .u64 (wdI ba 2), .int .u64 (wdI ba 3), .int .i64 0] 68)) := (Below.refl _ _).alloc (Nat.le_refl _) _
  have hr2 := Blk.new w4 68 #[.int .i64 0, .int .u64 (wdI ba 0), .int .u64 (wdI ba 1), .int .u64 (wdI ba 2), .int .u64 (wdI ba 3), .int .i64 0]
  have HR25 := Lib.hid (hr2.below hB5 hr2.lt)
  have hB45 := hA4.trans (hB5.mono hA4.size)
  have HK5 := Lib.hid (HK4.out.below hB45 HK4.out.lt)
  have HR05 := Lib.hid (HR04.out.below hB45 HR04.out.lt)
  have HR15 := Lib.hid (HR14.out.below hB45 HR14.out.lt)
  have HB5 := Lib.hid (HB4.out.trans (hB45.mono HB4.out.size))
  clear hA4 hr2 hB5 hB45 HK4 HR04 HR14 HB4 HS2
  obtain ⟨W6, hW6⟩ : ∃ W, W = ((w5.alloc (.cells #[.int .i64 1, .int .u64 (wdI z 0), .int .u64 (wdI z 1), .int .u64 (wdI z 2), .int .u64 (wdI z 3), .int .i64 2] 68)).alloc (.cells #[.int .i64 0, .slice (some ⟨w1.heap.size, 0, none⟩) 1 1, .string ⟨#[]⟩, .int .i64 0, .bool false, .bool false, .int .i64 (-1), .int .i64 0, .slice (some ⟨w3.heap.size, 0, none⟩) 2 2, .string ⟨#[]⟩, .int .i64 0, .bool false, .bool false, .int .i64 (-1), .int .i64 1, .slice (some ⟨w4.heap.size, 0, none⟩) 1 1, .string ⟨#[]⟩, .int .i64 0, .bool false, .bool false, .int .i64 (-1), .int .i64 2, .slice (some ⟨w5.heap.size, 0, none⟩) 1 1, .string ⟨#[]⟩, .int .i64 0, .bool false, .bool false, .int .i64 (-1)] 46)).alloc (.cells #[.slice (some ⟨w.heap.size, 0, none⟩) 3 3, .slice (some ⟨w5.heap.size + 1, 0, none⟩) 4 4, .int .i64 0, .slice none 0 0, .slice none 0 0] 27) := ⟨_, rfl⟩
  have hA5 : Below w5.heap.size w5 W6 := by rw [hW6]; exact (((Below.refl _ _).alloc (Nat.le_refl _) _).alloc (by simp) _).alloc (by simp; omega) _
  have hr3 : Blk W6 w5.heap.size 68 #[.int .i64 1, .int .u64 (wdI z 0), .int .u64 (wdI z 1), .int .u64 (wdI z 2), .int .u64 (wdI z 3), .int .i64 2] := by rw [hW6]; exact ((Blk.new w5 68 _).alloc _).alloc _
  have hpr : Blk W6 (w5.heap.size + 1) 46 #[.int .i64 0, .slice (some ⟨w1.heap.size, 0, none⟩) 1 1, .string ⟨#[]⟩, .int .i64 0, .bool false, .bool false, .int .i64 (-1), .int .i64 0, .slice (some ⟨w3.heap.size, 0, none⟩) 2 2, .string ⟨#[]⟩, .int .i64 0, .bool false, .bool false, .int .i64 (-1), .int .i64 1, .slice (some ⟨w4.heap.size, 0, none⟩) 1 1, .string ⟨#[]⟩, .int .i64 0, .bool false, .bool false, .int .i64 (-1), .int .i64 2, .slice (some ⟨w5.heap.size, 0, none⟩) 1 1, .string ⟨#[]⟩, .int .i64 0, .bool false, .bool false, .int .i64 (-1)] := by
    have h := Blk.new (w5.alloc (.cells #[.int .i64 1, .int .u64 (wdI z 0), .int .u64 (wdI z 1), .int .u64 (wdI z 2), .int .u64 (wdI z 3), .int .i64 2] 68)) 46 #[.int .i64 0, .slice (some ⟨w1.heap.size, 0, none⟩) 1 1, .string ⟨#[]⟩, .int .i64 0, .bool false, .bool false, .int .i64 (-1), .int .i64 0, .slice (some ⟨w3.heap.size, 0, none⟩) 2 2, .string ⟨#[]⟩, .int .i64 0, .bool false, .bool false, .int .i64 (-1), .int .i64 1, .slice (some ⟨w4.heap.size, 0, none⟩) 1 1, .string ⟨#[]⟩, .int .i64 0, .bool false, .bool false, .int .i64 (-1), .int .i64 2, .slice (some ⟨w5.heap.size, 0, none⟩) 1 1, .string ⟨#[]⟩, .int .i64 0, .bool false, .bool false, .int .i64 (-1)]
    rw [World.size_alloc] at h
    rw [hW6]; exact h.alloc _
  have hgb : Blk W6 (w5.heap.size + 2) 27 #[.slice (some ⟨w.heap.size, 0, none⟩) 3 3, .slice (some ⟨w5.heap.size + 1, 0, none⟩) 4 4, .int .i64 0, .slice none 0 0, .slice none 0 0] := by
    have h := Blk.new ((w5.alloc (.cells #[.int .i64 1, .int .u64 (wdI z 0), .int .u64 (wdI z 1), .int .u64 (wdI z 2), .int .u64 (wdI z 3), .int .i64 2] 68)).alloc (.cells #[.int .i64 0, .slice (some ⟨w1.heap.size, 0, none⟩) 1 1, .string ⟨#[]⟩, .int .i64 0, .bool false, .bool false, .int .i64 (-1), .int .i64 0, .slice (some ⟨w3.heap.size, 0, none⟩) 2 2, .string ⟨#[]⟩, .int .i64 0, .bool false, .bool false, .int .i64 (-1), .int .i64 1, .slice (some ⟨w4.heap.size, 0, none⟩) 1 1, .string ⟨#[]⟩, .int .i64 0, .bool false, .bool false, .int .i64 (-1), .int .i64 2, .slice (some ⟨w5.heap.size, 0, none⟩) 1 1, .string ⟨#[]⟩, .int .i64 0, .bool false, .bool false, .int .i64 (-1)] 46)) 27 #[.slice (some ⟨w.heap.size, 0, none⟩) 3 3, .slice (some ⟨w5.heap.size + 1, 0, none⟩) 4 4, .int .i64 0, .slice none 0 0, .slice none 0 0]
    rw [World.size_alloc, World.size_alloc] at h
    rw [hW6]; exact h
  have HGK : Hid (GKIn W6 w.heap.size (w5.heap.size + 1) w1.heap.size w3.heap.size w4.heap.size w5.heap.size) := Lib.hid ⟨HK5.out.below hA5 HK5.out.lt, hpr, by
      have h := HR05.out.below hA5 HR05.out.lt
      rw [HZ.out] at h; exact h, by
      have h := HR15.out.below hA5 HR15.out.lt
      rw [HZ.out, HX.out] at h; exact h, by
      have h := HR25.out.below hA5 HR25.out.lt
      rw [HA.out] at h; exact h, by
      have h := hr3
      rw [HZ.out] at h; exact h⟩
  have HB6 := Lib.hid (HB5.out.trans (hA5.mono HB5.out.size))
  have HGb := Lib.hid hgb
  clear hA5 hr3 hpr hgb HK5 HR05 HR15 HR25 HB5
  go_wp2_with fail
  rw [← hW6]
  have HKA := Lib.hid (knownA HGK.out)
  clear hW6 HZ HX HA HGK
  obtain ⟨B2, hb2⟩ : ∃ b, b = w5.heap.size + 1 + 1 := ⟨_, rfl⟩
  rw [← hb2]
  have HGb : Hid (Blk W6 B2 27 #[.slice (some ⟨w.heap.size, 0, none⟩) 3 3, .slice (some ⟨w5.heap.size + 1, 0, none⟩) 4 4, .int .i64 0, .slice none 0 0, .slice none 0 0]) := Lib.hid (by rw [hb2]; exact HGb.out)
  clear hb2
  obtain ⟨Bp, hbp⟩ : ∃ b, b = w5.heap.size + 1 := ⟨_, rfl⟩
  rw [← hbp] at HGb HKA ⊢
  clear hbp
  obtain ⟨c0, c1, c2, c3, c4⟩ := cells5 HGb.out
  have l6 := HGb.out.lt
  with_reducible refine (HKA.out.we W6 (Below.refl _ _)).mono ?_
  rintro e w7 ⟨rfl, hB7⟩
  have HB7 := Lib.hid hB7
  have hg7 := HGb.out.below hB7 l6
  obtain ⟨c0, c1, c2, c3, c4⟩ := cells5 hg7
  have l7 := hg7.lt
  have HG7 := Lib.hid hg7
  clear hB7 hg7
  go_wp2_with fail
  with_reducible refine (HKA.out.fi w7 HB7.out).mono ?_
  rintro e w8 ⟨rfl, hB8⟩
  have HB8 := Lib.hid (HB7.out.trans (hB8.mono HB7.out.size))
  have hg8 := HG7.out.below hB8 l7
  obtain ⟨c0, c1, c2, c3, c4⟩ := cells5 hg8
  have l8 := hg8.lt
  have HG8 := Lib.hid hg8
  clear hB8 hg8
  go_wp2_with fail
  with_reducible refine (HKA.out.tr w8 HB8.out).mono ?_
  rintro e w9 ⟨h, hs, hp, rfl, hB9⟩
  unfold gramC
  rw [hs, hp]
  have HB9 := Lib.hid (HB8.out.trans (hB9.mono HB8.out.size))
  have hg9 := HG8.out.below hB9 l8
  obtain ⟨c0, c1, c2, c3, c4⟩ := cells5 hg9
  have l9 := hg9.lt
  have HG9 := Lib.hid hg9
  clear hB9 hg9
  go_wp2_with fail
  obtain ⟨W10, hW10⟩ : ∃ W, W = (((w9.alloc (.cells #[.slice h.sa 2 h.sc, .slice h.pa 3 h.pc, .int .i64 h.start, .slice h.fa h.forbid.length h.fc, .slice h.wa h.follow.length h.wc] 27)).alloc (.cells #[.int .i64 (-1), .int .u8 97, .slice none 0 0] 51)).alloc (.cells #[.int .i64 2, .int .u8 0, .slice (some ⟨w9.heap.size + 1, 0, none⟩) 1 1] 51)).alloc (.cells #[.int .i64 0, .int .u8 0, .slice (some ⟨w9.heap.size + 1 + 1, 0, none⟩) 1 1] 51) := ⟨_, rfl⟩
  rw [← hW10]
  have hA9 : Below w9.heap.size w9 W10 := by rw [hW10]; exact ((((Below.refl _ _).alloc (Nat.le_refl _) _).alloc (by simp) _).alloc (by simp; omega) _).alloc (by simp; omega) _
  have hhb : Blk W10 w9.heap.size 27 #[.slice h.sa 2 h.sc, .slice h.pa 3 h.pc, .int .i64 h.start, .slice h.fa h.forbid.length h.fc, .slice h.wa h.follow.length h.wc] := by rw [hW10]; exact (((Blk.new w9 27 _).alloc _).alloc _).alloc _
  have hlf : Blk W10 (w9.heap.size + 1) 51 #[.int .i64 (-1), .int .u8 97, .slice none 0 0] := by
    have h := Blk.new (w9.alloc (.cells #[.slice h.sa 2 h.sc, .slice h.pa 3 h.pc, .int .i64 h.start, .slice h.fa h.forbid.length h.fc, .slice h.wa h.follow.length h.wc] 27)) 51 #[.int .i64 (-1), .int .u8 97, .slice none 0 0]
    rw [World.size_alloc] at h
    rw [hW10]; exact (h.alloc _).alloc _
  have hnd : Blk W10 (w9.heap.size + 1 + 1) 51 #[.int .i64 2, .int .u8 0, .slice (some ⟨w9.heap.size + 1, 0, none⟩) 1 1] := by
    have h := Blk.new ((w9.alloc (.cells #[.slice h.sa 2 h.sc, .slice h.pa 3 h.pc, .int .i64 h.start, .slice h.fa h.forbid.length h.fc, .slice h.wa h.follow.length h.wc] 27)).alloc (.cells #[.int .i64 (-1), .int .u8 97, .slice none 0 0] 51)) 51 #[.int .i64 2, .int .u8 0, .slice (some ⟨w9.heap.size + 1, 0, none⟩) 1 1]
    rw [World.size_alloc, World.size_alloc] at h
    rw [hW10]; exact h.alloc _
  have hrt : Blk W10 (w9.heap.size + 1 + 1 + 1) 51 #[.int .i64 0, .int .u8 0, .slice (some ⟨w9.heap.size + 1 + 1, 0, none⟩) 1 1] := by
    have h := Blk.new (((w9.alloc (.cells #[.slice h.sa 2 h.sc, .slice h.pa 3 h.pc, .int .i64 h.start, .slice h.fa h.forbid.length h.fc, .slice h.wa h.follow.length h.wc] 27)).alloc (.cells #[.int .i64 (-1), .int .u8 97, .slice none 0 0] 51)).alloc (.cells #[.int .i64 2, .int .u8 0, .slice (some ⟨w9.heap.size + 1, 0, none⟩) 1 1] 51)) 51 #[.int .i64 0, .int .u8 0, .slice (some ⟨w9.heap.size + 1 + 1, 0, none⟩) 1 1]
    rw [World.size_alloc, World.size_alloc, World.size_alloc] at h
    rw [hW10]; exact h
  have hin : TreeIn W10 (TK (some ⟨w9.heap.size + 1 + 1, 0, none⟩) (some ⟨w9.heap.size + 1, 0, none⟩)) := by
    have h0 : TreeIn W10 (.node (-1) 97 none 0 []) := (tree_in ..).2 (RowOf.nil _)
    have h1 : TreeIn W10 (.node 2 0 (some ⟨w9.heap.size + 1, 0, none⟩) 1 [.node (-1) 97 none 0 []]) := (tree_in ..).2 (row_blk (cs := treeC) (k := 3) (fun x => by cases x; rfl) hlf (by simp [cellsL, treeC]) (fun x hx => by simp at hx; rw [hx]; exact h0))
    exact (tree_in ..).2 (row_blk (cs := treeC) (k := 3) (fun x => by cases x; rfl) hnd (by simp [cellsL, treeC]) (fun x hx => by simp at hx; rw [hx]; exact h1))
  have HG10 := Lib.hid (HG9.out.below hA9 HG9.out.lt)
  have HB10 := Lib.hid (HB9.out.trans (hA9.mono HB9.out.size))
  have HH10 := Lib.hid hhb
  have HT10 := Lib.hid hrt
  have HI10 := Lib.hid hin
  have HY := Lib.hid (known_yield W10 _ _ hin)
  simp only [TK, treeV, treeC, List.length_cons, List.length_nil, Nat.zero_add] at HY
  clear hhb hlf hnd hrt hin hA9 hW10
  with_reducible refine HY.out.mono ?_
  rintro e w11 ⟨rfl, hB11⟩
  have HB11 := Lib.hid (HB10.out.trans (hB11.mono HB10.out.size))
  have HG11 := Lib.hid (HG10.out.below hB11 HG10.out.lt)
  have HH11 := Lib.hid (HH10.out.below hB11 HH10.out.lt)
  have HT11 := Lib.hid (HT10.out.below hB11 HT10.out.lt)
  have HI11 := Lib.hid (TreeIn.below hB11 _ HI10.out)
  obtain ⟨c0, c1, c2, c3, c4⟩ := cells5 HG11.out
  obtain ⟨d0, d1, d2, d3, d4⟩ := cells5 HH11.out
  obtain ⟨t0, t1, t2⟩ := cells3 HT11.out
  have lg11 := HG11.out.lt
  have lh11 := HH11.out.lt
  have lt11 := HT11.out.lt
  clear hB11
  go_wp2_with fail
  with_reducible refine (HKA.out.of w11 HB11.out).mono ?_
  rintro e w12 ⟨oa, oc, rfl, hB12⟩
  have HB12 := Lib.hid (HB11.out.trans (hB12.mono HB11.out.size))
  have HG12 := Lib.hid (HG11.out.below hB12 HG11.out.lt)
  have HH12 := Lib.hid (HH11.out.below hB12 HH11.out.lt)
  have HT12 := Lib.hid (HT11.out.below hB12 HT11.out.lt)
  have HI12 := Lib.hid (TreeIn.below hB12 _ HI11.out)
  obtain ⟨c0, c1, c2, c3, c4⟩ := cells5 HG12.out
  obtain ⟨d0, d1, d2, d3, d4⟩ := cells5 HH12.out
  obtain ⟨t0, t1, t2⟩ := cells3 HT12.out
  have lg12 := HG12.out.lt
  have lh12 := HH12.out.lt
  have lt12 := HT12.out.lt
  clear hB12
  go_wp2_with fail
  with_reducible refine (HKA.out.ck w12 HB12.out).mono ?_
  rintro e w13 ⟨rfl, hB13⟩
  have HB13 := Lib.hid (HB12.out.trans (hB13.mono HB12.out.size))
  have HG13 := Lib.hid (HG12.out.below hB13 HG12.out.lt)
  have HH13 := Lib.hid (HH12.out.below hB13 HH12.out.lt)
  have HT13 := Lib.hid (HT12.out.below hB13 HT12.out.lt)
  have HI13 := Lib.hid (TreeIn.below hB13 _ HI12.out)
  obtain ⟨c0, c1, c2, c3, c4⟩ := cells5 HG13.out
  obtain ⟨d0, d1, d2, d3, d4⟩ := cells5 HH13.out
  obtain ⟨t0, t1, t2⟩ := cells3 HT13.out
  have lg13 := HG13.out.lt
  have lh13 := HH13.out.lt
  have lt13 := HT13.out.lt
  clear hB13
  have HCT := Lib.hid (HKA.out.ct w13 _ _ HB13.out HI13.out)
  simp only [TK, treeV, treeC, List.length_cons, List.length_nil, Nat.zero_add] at HCT
  go_wp2_with fail
  with_reducible refine HCT.out.mono ?_
  rintro e w14 ⟨rfl, hB14⟩
  have HB14 := Lib.hid (HB13.out.trans (hB14.mono HB13.out.size))
  clear hB14
  go_wp2_with fail
  with_reducible refine (zero_check _).mono ?_
  rintro e w15 ⟨rfl, hB15⟩
  have HB15 := Lib.hid (HB14.out.trans (hB15.mono HB14.out.size))
  clear hB15
  go_wp2
  go_ret
  exact ⟨rfl, HB6.out.trans (HB15.out.mono HB6.out.size)⟩
end Go.Proofs.Ytiihdbchchnncaa
end
