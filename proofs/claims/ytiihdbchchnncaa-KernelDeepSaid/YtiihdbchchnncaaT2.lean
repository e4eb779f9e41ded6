import Derived.Test.YtiihdbchchnncaaX
import Derived.Test.YtiihdbchchnncaaC4
import Derived.Test.YtiihdbchchnncaaT1
namespace Go.Proofs.Ytiihdbchchnncaa
open Go Go.RowKit Go.Vals

/-- A tree's production. -/
def prodOf : TreeM → Int
  | .node p _ _ _ _ => p
/-- Is a tree one of the symbol? -/
def ofTB (g : GramM) (r : TreeM → Bool) (s : SymM) : TreeM → Bool
  | .node p b ka kc kids => if s.kind = 0 then p == -1 && kids.length == 0 && s.set.getLsbD b.toNat else r (.node p b ka kc kids) && (match g.prods[p.toNat]? with | some x => x.left == s.sort | none => false)

set_option maxRecDepth 100000 in
set_option maxHeartbeats 2000000 in
theorem isTreeOf_any (g : GramM) (s : SymM) (k : TreeM) (r : TreeM → Bool) (d : Nat) (Bg : Nat) (w : World) (hbg : Blk w Bg 27 (gramC g)) (hg : GIn w g) (hfit : TFit (d + 1) k)
    (hcall : s.kind ≠ 0 → ∀ W, Below w.heap.size w W → Calls Try.prog 50 #[.pointer (some ⟨Bg, 0, none⟩), treeV k] W fun e w' => e = .returned (.bool (r k)) ∧ Below W.heap.size W w')
    (hr : r k = true → ∃ m : Nat, prodOf k = m ∧ m < g.prods.length) :
    Calls Try.prog 68 #[.pointer (some ⟨Bg, 0, none⟩), symV s, treeV k] w fun e w' => e = .returned (.bool (ofTB g r s k)) ∧ Below w.heap.size w w' := by
  obtain ⟨kp, kb, ka, kc, kids⟩ := k
  obtain ⟨hlen, ⟨n, rfl, hn⟩, _⟩ := hfit
  obtain ⟨sk, ss, so⟩ := s
  have e0 : ofTB g r ⟨sk, ss, so⟩ (.node kp (n : Int) ka kc kids) = if sk = 0 then kp == -1 && kids.length == 0 && ss.getLsbD n else r (.node kp (n : Int) ka kc kids) && (match g.prods[kp.toNat]? with | some x => x.left == so | none => false) := by
    unfold ofTB; simp only [Int.toNat_natCast]
  have HE := Lib.hid e0
  clear e0
  obtain ⟨W0, hW0⟩ : ∃ W0, W0 = (w.alloc (.cells (symC ⟨sk, ss, so⟩) 68)).alloc (.cells (treeC (.node kp (n : Int) ka kc kids)) 51) := ⟨_, rfl⟩
  have hB1 : Below w.heap.size w W0 := by rw [hW0]; exact ((Below.refl _ _).alloc (Nat.le_refl _) _).alloc (by simp) _
  have hb1 : Blk W0 w.heap.size 68 (symC ⟨sk, ss, so⟩) := by rw [hW0]; exact (Blk.new w 68 _).alloc _
  have hb2 : Blk W0 (w.heap.size + 1) 51 (treeC (.node kp (n : Int) ka kc kids)) := by
    have h := Blk.new (w.alloc (.cells (symC ⟨sk, ss, so⟩) 68)) 51 (treeC (.node kp (n : Int) ka kc kids))
    rw [World.size_alloc] at h
    rw [hW0]; exact h
  have HB := Lib.hid hB1
  have HHas := Lib.hid (fun W => has_any ss n hn W)
  by_cases hk : sk = 0
  · subst hk
    have HR3 : Hid (ofTB g r ⟨0, ss, so⟩ (.node kp (n : Int) ka kc kids) = (kp == -1 && kids.length == 0 && ss.getLsbD n)) := Lib.hid (by rw [HE.out, if_pos rfl])
    have HW := Lib.hid hW0
    clear HE hcall hr hbg hg hW0 hB1 hb1 hb2
    have HQ : Hid (ss.getLsbD n = ss.getLsbD n) := Lib.hid rfl
    generalize ofTB g r _ _ = q at *
    generalize ss.getLsbD n = h at *
    unfold vset at HHas
    unfold symV treeV symC treeC at *
    cases h1 : (kp == -1) with
    | false =>
      have HR4 : Hid (q = false) := Lib.hid (by rw [HR3.out, h1]; rfl)
      have h1' : ¬ kp = -1 := by simpa using h1
      clear HR3 HHas
      go_enter Try.func68, Try.ntmps68
      go_wp2
      go_ret
      exact ⟨by rw [HR4.out]; try rfl, by rw [← HW.out]; exact HB.out⟩
    | true =>
      obtain rfl := eq_of_beq h1
      cases h2 : (kids.length == 0) with
      | false =>
        have HR4 : Hid (q = false) := Lib.hid (by rw [HR3.out, h2]; rfl)
        have h2' : ¬ (kids.length : Int) = 0 := fun e => by
          have h3 : kids.length = 0 := by omega
          rw [h3] at h2
          cases h2
        have h4 : ((kids.length : Int) == 0) = false := by
          rw [beq_eq_false_iff_ne]
          exact h2'
        clear HR3 HHas
        go_enter Try.func68, Try.ntmps68
        go_wp2
        go_ret
        exact ⟨by rw [HR4.out]; try rfl, by rw [← HW.out]; exact HB.out⟩
      | true =>
        have HR4 : Hid (q = h) := Lib.hid (by rw [HR3.out, h2]; simp)
        have h2' : (kids.length : Int) = 0 := by
          have h3 := eq_of_beq h2
          omega
        clear HR3
        go_enter Try.func68, Try.ntmps68
        go_wp2_with (go_at_call 89; (with_reducible refine (HHas.out _).mono ?_); rintro e w3 ⟨rfl, hB3⟩)
        rw [← HW.out] at hB3
        go_ret
        exact ⟨by rw [HR4.out]; try rfl, HB.out.trans (hB3.mono HB.out.size)⟩
  · have HC := Lib.hid (hcall hk)
    have hkb : (sk == 0) = false := by simpa using hk
    have hN : ∀ W : World, Below W.heap.size W W := fun W => Below.refl _ W
    have lg := hbg.lt
    cases hrk : r (.node kp (n : Int) ka kc kids) with
    | false =>
      have HR3 : Hid (ofTB g r ⟨sk, ss, so⟩ (.node kp (n : Int) ka kc kids) = false) := Lib.hid (by rw [HE.out, if_neg hk, hrk]; rfl)
      rw [hrk] at HC
      have HK : Hid (∀ W, Below W0.heap.size W0 W → CellsAt W (w.heap.size + 1) 0 (treeC (.node kp (n : Int) ka kc kids)) ∧ True) := Lib.hid (fun W hW => ⟨fun j v hv => by
        have h := (hb2.below hW hb2.lt).cell j
        rw [Nat.zero_add, h, hv], trivial⟩)
      clear HE hcall hr hbg hg hB1 hb1 hb2 HHas hrk
      generalize ofTB g r _ _ = q at *
      unfold symV treeV at *
      unfold symC treeC at hW0 ⊢
      unfold treeC at HC
      go_enter Try.func68, Try.ntmps68
      go_wp2_with fail
      rw [← hW0]
      clear hW0
      refine wp_region_vals0 (N := fun W W' => Below W.heap.size W W') (S := fun W => Below W0.heap.size W0 W)
        [.pointer (some ⟨Bg, 0, none⟩), .agg #[.int .i64 kp, .int .u8 (n : Nat), .slice ka kids.length kc], .bool false, .bool false, undef, undef, undef, undef, undef, undef, undef, undef, undef, undef, undef, undef, .bool false, .bool false]
        #[.pointer (some ⟨Bg, 0, none⟩), .agg #[.int .i64 sk, .int .u64 (wdI ss 0), .int .u64 (wdI ss 1), .int .u64 (wdI ss 2), .int .u64 (wdI ss 3), .int .i64 so], .agg #[.int .i64 kp, .int .u8 (n : Nat), .slice ka kids.length kc], undef, .pointer (some ⟨w.heap.size, 0, none⟩), .pointer (some ⟨w.heap.size + 1, 0, none⟩), .bool false, .pointer (some ⟨w.heap.size, 0, none⟩), .int .i64 sk, .bool false, undef, undef, undef, undef, undef, undef, undef, undef, undef, undef, undef, undef, undef, undef, undef, undef, .pointer (some ⟨Bg, 0, none⟩), .agg #[.int .i64 kp, .int .u8 (n : Nat), .slice ka kids.length kc], .bool false, .bool false, undef, undef, undef, undef, undef, undef, undef, undef, undef, undef, undef, undef, .bool false]
        rfl (by kernel_rfl) (by kernel_rfl) (by kernel_rfl) hN (Below.refl _ W0).drew (fun W W' h hB => h.trans (hB.mono h.size)) ?_ ?_
      · refine Each.val 26 (.pointer (some ⟨Bg, 0, none⟩)) (by kernel_rfl) (by kernel_rfl) (by kernel_rfl) hN (fun _ _ _ => by kernel_rfl) ?_
        refine Each.val 27 (.agg #[.int .i64 kp, .int .u8 (n : Nat), .slice ka kids.length kc]) (by kernel_rfl) (by kernel_rfl) (by kernel_rfl) hN (fun W hS _ => ld51 rfl (by kernel_rfl) ((HK.out W hS).1)) ?_
        refine Each.call 28 (.bool false) 50 #[.pointer (some ⟨Bg, 0, none⟩), .agg #[.int .i64 kp, .int .u8 (n : Nat), .slice ka kids.length kc]] (by kernel_rfl) (by kernel_rfl) (by kernel_rfl) (fun _ _ => by kernel_rfl) (fun W hS => HC.out W (HB.out.trans (hS.mono HB.out.size))) ?_
        refine Each.val 29 (.bool false) (by kernel_rfl) (by kernel_rfl) (by kernel_rfl) hN (fun _ _ _ => by kernel_rfl) ?_
        refine Each.off 30 (by kernel_rfl) (by kernel_rfl) (by kernel_rfl) ?_
        refine Each.off 31 (by kernel_rfl) (by kernel_rfl) (by kernel_rfl) ?_
        refine Each.off 32 (by kernel_rfl) (by kernel_rfl) (by kernel_rfl) ?_
        refine Each.off 33 (by kernel_rfl) (by kernel_rfl) (by kernel_rfl) ?_
        refine Each.off 34 (by kernel_rfl) (by kernel_rfl) (by kernel_rfl) ?_
        refine Each.off 35 (by kernel_rfl) (by kernel_rfl) (by kernel_rfl) ?_
        refine Each.off 36 (by kernel_rfl) (by kernel_rfl) (by kernel_rfl) ?_
        refine Each.off 37 (by kernel_rfl) (by kernel_rfl) (by kernel_rfl) ?_
        refine Each.off 38 (by kernel_rfl) (by kernel_rfl) (by kernel_rfl) ?_
        refine Each.off 39 (by kernel_rfl) (by kernel_rfl) (by kernel_rfl) ?_
        refine Each.off 40 (by kernel_rfl) (by kernel_rfl) (by kernel_rfl) ?_
        refine Each.off 41 (by kernel_rfl) (by kernel_rfl) (by kernel_rfl) ?_
        refine Each.val 42 (.bool false) (by kernel_rfl) (by kernel_rfl) (by kernel_rfl) hN (fun _ _ _ => by kernel_rfl) ?_
        refine Each.val 6 (.bool false) (by kernel_rfl) (by kernel_rfl) (by kernel_rfl) hN (fun _ _ _ => by kernel_rfl) ?_
        exact trivial
      · intro w' hS
        have HB3 := Lib.hid (HB.out.trans (hS.mono HB.out.size))
        clear hS hN
        go_wp2
        go_ret
        exact ⟨by rw [HR3.out]; try rfl, HB3.out⟩
    | true =>
      obtain ⟨m, hm, hmn⟩ := hr hrk
      unfold prodOf at hm
      subst hm
      obtain ⟨x, hx⟩ : ∃ x, g.prods[m]? = some x := ⟨_, List.getElem?_eq_getElem hmn⟩
      have HR2 : Hid (ofTB g r ⟨sk, ss, so⟩ (.node (m : Int) (n : Int) ka kc kids) = (x.left == so)) := Lib.hid (by rw [HE.out, if_neg hk, hrk, Int.toNat_natCast, hx]; rfl)
      rw [hrk] at HC
      obtain ⟨b, off, hpa, hbw, hc, _⟩ := hg.prods m x hx
      have HK : Hid (∀ W, Below W0.heap.size W0 W → CellsAt W (w.heap.size + 1) 0 (treeC (.node (m : Int) (n : Int) ka kc kids)) ∧ W.cell? ⟨Bg, 1, none⟩ = some (.slice (some ⟨b, off, none⟩) g.prods.length g.pc) ∧ W.cell? ⟨w.heap.size + 1, 0, none⟩ = some (.int .i64 (m : Nat))
          ∧ W.cell? ⟨w.heap.size, 5, none⟩ = some (.int .i64 so) ∧ W.cell? ⟨b, off + m * 7, none⟩ = some (.int .i64 x.left)) := Lib.hid (fun W hW => by
        have hWw := hB1.trans (hW.mono hB1.size)
        refine ⟨fun j v hv => ?_, ?_, (hb2.below hW hb2.lt).cell 0, (hb1.below hW hb1.lt).cell 5, ?_⟩
        · have h := (hb2.below hW hb2.lt).cell j
          rw [Nat.zero_add, h, hv]
        · rw [← hpa]; exact (hbg.below hWw hbg.lt).gram.2.1
        · exact (Prod_at (hc.below hWw hbw)).1)
      clear HE hcall hr hbg hg hB1 hb1 hb2 HHas hrk hx hc
      generalize ofTB g r _ _ = q at *
      unfold symV treeV at *
      unfold symC treeC at hW0 ⊢
      unfold treeC at HC
      cases i1 : (x.left == so) with
      | false =>
        have HR3 : Hid (q = false) := Lib.hid (by rw [HR2.out, i1])
        clear HR2
        go_enter Try.func68, Try.ntmps68
        go_wp2_with fail
        rw [← hW0]
        clear hW0
        refine wp_region_vals0 (N := fun W W' => Below W.heap.size W W') (S := fun W => Below W0.heap.size W0 W)
          [.pointer (some ⟨Bg, 0, none⟩), .agg #[.int .i64 (m : Nat), .int .u8 (n : Nat), .slice ka kids.length kc], .bool true, .bool true, .pointer (some ⟨Bg, 0, none⟩), .pointer (some ⟨Bg, 0, none⟩), .pointer (some ⟨Bg, 1, none⟩), .slice (some ⟨b, off, none⟩) g.prods.length g.pc, .pointer (some ⟨w.heap.size + 1, 0, none⟩), .int .i64 (m : Nat), .pointer (some ⟨b, off + m * 7, none⟩), .pointer (some ⟨b, off + m * 7, none⟩), .int .i64 x.left, .pointer (some ⟨w.heap.size, 5, none⟩), .int .i64 so, .bool false, .bool false, .bool false]
          #[.pointer (some ⟨Bg, 0, none⟩), .agg #[.int .i64 sk, .int .u64 (wdI ss 0), .int .u64 (wdI ss 1), .int .u64 (wdI ss 2), .int .u64 (wdI ss 3), .int .i64 so], .agg #[.int .i64 (m : Nat), .int .u8 (n : Nat), .slice ka kids.length kc], undef, .pointer (some ⟨w.heap.size, 0, none⟩), .pointer (some ⟨w.heap.size + 1, 0, none⟩), .bool false, .pointer (some ⟨w.heap.size, 0, none⟩), .int .i64 sk, .bool false, undef, undef, undef, undef, undef, undef, undef, undef, undef, undef, undef, undef, undef, undef, undef, undef, .pointer (some ⟨Bg, 0, none⟩), .agg #[.int .i64 (m : Nat), .int .u8 (n : Nat), .slice ka kids.length kc], .bool true, .bool true, .pointer (some ⟨Bg, 0, none⟩), .pointer (some ⟨Bg, 0, none⟩), .pointer (some ⟨Bg, 1, none⟩), .slice (some ⟨b, off, none⟩) g.prods.length g.pc, .pointer (some ⟨w.heap.size + 1, 0, none⟩), .int .i64 (m : Nat), .pointer (some ⟨b, off + m * 7, none⟩), .pointer (some ⟨b, off + m * 7, none⟩), .int .i64 x.left, .pointer (some ⟨w.heap.size, 5, none⟩), .int .i64 so, .bool false, .bool false]
          rfl (by kernel_rfl) (by kernel_rfl) (by kernel_rfl) hN (Below.refl _ W0).drew (fun W W' h hB => h.trans (hB.mono h.size)) ?_ ?_
        · refine Each.val 26 (.pointer (some ⟨Bg, 0, none⟩)) (by kernel_rfl) (by kernel_rfl) (by kernel_rfl) hN (fun _ _ _ => by kernel_rfl) ?_
          refine Each.val 27 (.agg #[.int .i64 (m : Nat), .int .u8 (n : Nat), .slice ka kids.length kc]) (by kernel_rfl) (by kernel_rfl) (by kernel_rfl) hN (fun W hS _ => ld51 rfl (by kernel_rfl) ((HK.out W hS).1)) ?_
          refine Each.call 28 (.bool true) 50 #[.pointer (some ⟨Bg, 0, none⟩), .agg #[.int .i64 (m : Nat), .int .u8 (n : Nat), .slice ka kids.length kc]] (by kernel_rfl) (by kernel_rfl) (by kernel_rfl) (fun _ _ => by kernel_rfl) (fun W hS => HC.out W (HB.out.trans (hS.mono HB.out.size))) ?_
          refine Each.val 29 (.bool true) (by kernel_rfl) (by kernel_rfl) (by kernel_rfl) hN (fun _ _ _ => by kernel_rfl) ?_
          refine Each.val 30 (.pointer (some ⟨Bg, 0, none⟩)) (by kernel_rfl) (by kernel_rfl) (by kernel_rfl) hN (fun _ _ _ => by kernel_rfl) ?_
          refine Each.val 31 (.pointer (some ⟨Bg, 0, none⟩)) (by kernel_rfl) (by kernel_rfl) (by kernel_rfl) hN (fun _ _ _ => by kernel_rfl) ?_
          refine Each.val 32 (.pointer (some ⟨Bg, 1, none⟩)) (by kernel_rfl) (by kernel_rfl) (by kernel_rfl) hN (fun W hS _ => fa27_1 rfl (by kernel_rfl)) ?_
          refine Each.val 33 (.slice (some ⟨b, off, none⟩) g.prods.length g.pc) (by kernel_rfl) (by kernel_rfl) (by kernel_rfl) hN (fun W hS _ => ld23 rfl (by kernel_rfl) ((HK.out W hS).2.1)) ?_
          refine Each.val 34 (.pointer (some ⟨w.heap.size + 1, 0, none⟩)) (by kernel_rfl) (by kernel_rfl) (by kernel_rfl) hN (fun W hS _ => fa51_0 rfl (by kernel_rfl)) ?_
          refine Each.val 35 (.int .i64 (m : Nat)) (by kernel_rfl) (by kernel_rfl) (by kernel_rfl) hN (fun W hS _ => ld3 rfl (by kernel_rfl) ((HK.out W hS).2.2.1)) ?_
          refine Each.val 36 (.pointer (some ⟨b, off + m * 7, none⟩)) (by kernel_rfl) (by kernel_rfl) (by kernel_rfl) hN (fun W hS _ => ix23 (c := g.pc) rfl (by kernel_rfl) (by kernel_rfl) hmn rfl) ?_
          refine Each.val 37 (.pointer (some ⟨b, off + m * 7, none⟩)) (by kernel_rfl) (by kernel_rfl) (by kernel_rfl) hN (fun W hS _ => fa46_0 rfl (by kernel_rfl)) ?_
          refine Each.val 38 (.int .i64 x.left) (by kernel_rfl) (by kernel_rfl) (by kernel_rfl) hN (fun W hS _ => ld3 rfl (by kernel_rfl) ((HK.out W hS).2.2.2.2)) ?_
          refine Each.val 39 (.pointer (some ⟨w.heap.size, 5, none⟩)) (by kernel_rfl) (by kernel_rfl) (by kernel_rfl) hN (fun W hS _ => fa68_2 rfl (by kernel_rfl)) ?_
          refine Each.val 40 (.int .i64 so) (by kernel_rfl) (by kernel_rfl) (by kernel_rfl) hN (fun W hS _ => ld3 rfl (by kernel_rfl) ((HK.out W hS).2.2.2.1)) ?_
          refine Each.val 41 (.bool false) (by kernel_rfl) (by kernel_rfl) (by kernel_rfl) hN (fun W hS _ => ex_eql3 rfl (by kernel_rfl) (by kernel_rfl) (i1)) ?_
          refine Each.val 42 (.bool false) (by kernel_rfl) (by kernel_rfl) (by kernel_rfl) hN (fun _ _ _ => by kernel_rfl) ?_
          refine Each.val 6 (.bool false) (by kernel_rfl) (by kernel_rfl) (by kernel_rfl) hN (fun _ _ _ => by kernel_rfl) ?_
          exact trivial
        · intro w' hS
          have HB3 := Lib.hid (HB.out.trans (hS.mono HB.out.size))
          clear hS hN
          go_wp2
          go_ret
          exact ⟨by rw [HR3.out]; try rfl, HB3.out⟩
      | true =>
        have HR3 : Hid (q = true) := Lib.hid (by rw [HR2.out, i1])
        clear HR2
        go_enter Try.func68, Try.ntmps68
        go_wp2_with fail
        rw [← hW0]
        clear hW0
        refine wp_region_vals0 (N := fun W W' => Below W.heap.size W W') (S := fun W => Below W0.heap.size W0 W)
          [.pointer (some ⟨Bg, 0, none⟩), .agg #[.int .i64 (m : Nat), .int .u8 (n : Nat), .slice ka kids.length kc], .bool true, .bool true, .pointer (some ⟨Bg, 0, none⟩), .pointer (some ⟨Bg, 0, none⟩), .pointer (some ⟨Bg, 1, none⟩), .slice (some ⟨b, off, none⟩) g.prods.length g.pc, .pointer (some ⟨w.heap.size + 1, 0, none⟩), .int .i64 (m : Nat), .pointer (some ⟨b, off + m * 7, none⟩), .pointer (some ⟨b, off + m * 7, none⟩), .int .i64 x.left, .pointer (some ⟨w.heap.size, 5, none⟩), .int .i64 so, .bool true, .bool true, .bool true]
          #[.pointer (some ⟨Bg, 0, none⟩), .agg #[.int .i64 sk, .int .u64 (wdI ss 0), .int .u64 (wdI ss 1), .int .u64 (wdI ss 2), .int .u64 (wdI ss 3), .int .i64 so], .agg #[.int .i64 (m : Nat), .int .u8 (n : Nat), .slice ka kids.length kc], undef, .pointer (some ⟨w.heap.size, 0, none⟩), .pointer (some ⟨w.heap.size + 1, 0, none⟩), .bool true, .pointer (some ⟨w.heap.size, 0, none⟩), .int .i64 sk, .bool false, undef, undef, undef, undef, undef, undef, undef, undef, undef, undef, undef, undef, undef, undef, undef, undef, .pointer (some ⟨Bg, 0, none⟩), .agg #[.int .i64 (m : Nat), .int .u8 (n : Nat), .slice ka kids.length kc], .bool true, .bool true, .pointer (some ⟨Bg, 0, none⟩), .pointer (some ⟨Bg, 0, none⟩), .pointer (some ⟨Bg, 1, none⟩), .slice (some ⟨b, off, none⟩) g.prods.length g.pc, .pointer (some ⟨w.heap.size + 1, 0, none⟩), .int .i64 (m : Nat), .pointer (some ⟨b, off + m * 7, none⟩), .pointer (some ⟨b, off + m * 7, none⟩), .int .i64 x.left, .pointer (some ⟨w.heap.size, 5, none⟩), .int .i64 so, .bool true, .bool true]
          rfl (by kernel_rfl) (by kernel_rfl) (by kernel_rfl) hN (Below.refl _ W0).drew (fun W W' h hB => h.trans (hB.mono h.size)) ?_ ?_
        · refine Each.val 26 (.pointer (some ⟨Bg, 0, none⟩)) (by kernel_rfl) (by kernel_rfl) (by kernel_rfl) hN (fun _ _ _ => by kernel_rfl) ?_
          refine Each.val 27 (.agg #[.int .i64 (m : Nat), .int .u8 (n : Nat), .slice ka kids.length kc]) (by kernel_rfl) (by kernel_rfl) (by kernel_rfl) hN (fun W hS _ => ld51 rfl (by kernel_rfl) ((HK.out W hS).1)) ?_
          refine Each.call 28 (.bool true) 50 #[.pointer (some ⟨Bg, 0, none⟩), .agg #[.int .i64 (m : Nat), .int .u8 (n : Nat), .slice ka kids.length kc]] (by kernel_rfl) (by kernel_rfl) (by kernel_rfl) (fun _ _ => by kernel_rfl) (fun W hS => HC.out W (HB.out.trans (hS.mono HB.out.size))) ?_
          refine Each.val 29 (.bool true) (by kernel_rfl) (by kernel_rfl) (by kernel_rfl) hN (fun _ _ _ => by kernel_rfl) ?_
          refine Each.val 30 (.pointer (some ⟨Bg, 0, none⟩)) (by kernel_rfl) (by kernel_rfl) (by kernel_rfl) hN (fun _ _ _ => by kernel_rfl) ?_
          refine Each.val 31 (.pointer (some ⟨Bg, 0, none⟩)) (by kernel_rfl) (by kernel_rfl) (by kernel_rfl) hN (fun _ _ _ => by kernel_rfl) ?_
          refine Each.val 32 (.pointer (some ⟨Bg, 1, none⟩)) (by kernel_rfl) (by kernel_rfl) (by kernel_rfl) hN (fun W hS _ => fa27_1 rfl (by kernel_rfl)) ?_
          refine Each.val 33 (.slice (some ⟨b, off, none⟩) g.prods.length g.pc) (by kernel_rfl) (by kernel_rfl) (by kernel_rfl) hN (fun W hS _ => ld23 rfl (by kernel_rfl) ((HK.out W hS).2.1)) ?_
          refine Each.val 34 (.pointer (some ⟨w.heap.size + 1, 0, none⟩)) (by kernel_rfl) (by kernel_rfl) (by kernel_rfl) hN (fun W hS _ => fa51_0 rfl (by kernel_rfl)) ?_
          refine Each.val 35 (.int .i64 (m : Nat)) (by kernel_rfl) (by kernel_rfl) (by kernel_rfl) hN (fun W hS _ => ld3 rfl (by kernel_rfl) ((HK.out W hS).2.2.1)) ?_
          refine Each.val 36 (.pointer (some ⟨b, off + m * 7, none⟩)) (by kernel_rfl) (by kernel_rfl) (by kernel_rfl) hN (fun W hS _ => ix23 (c := g.pc) rfl (by kernel_rfl) (by kernel_rfl) hmn rfl) ?_
          refine Each.val 37 (.pointer (some ⟨b, off + m * 7, none⟩)) (by kernel_rfl) (by kernel_rfl) (by kernel_rfl) hN (fun W hS _ => fa46_0 rfl (by kernel_rfl)) ?_
          refine Each.val 38 (.int .i64 x.left) (by kernel_rfl) (by kernel_rfl) (by kernel_rfl) hN (fun W hS _ => ld3 rfl (by kernel_rfl) ((HK.out W hS).2.2.2.2)) ?_
          refine Each.val 39 (.pointer (some ⟨w.heap.size, 5, none⟩)) (by kernel_rfl) (by kernel_rfl) (by kernel_rfl) hN (fun W hS _ => fa68_2 rfl (by kernel_rfl)) ?_
          refine Each.val 40 (.int .i64 so) (by kernel_rfl) (by kernel_rfl) (by kernel_rfl) hN (fun W hS _ => ld3 rfl (by kernel_rfl) ((HK.out W hS).2.2.2.1)) ?_
          refine Each.val 41 (.bool true) (by kernel_rfl) (by kernel_rfl) (by kernel_rfl) hN (fun W hS _ => ex_eql3 rfl (by kernel_rfl) (by kernel_rfl) (i1)) ?_
          refine Each.val 42 (.bool true) (by kernel_rfl) (by kernel_rfl) (by kernel_rfl) hN (fun _ _ _ => by kernel_rfl) ?_
          refine Each.val 6 (.bool true) (by kernel_rfl) (by kernel_rfl) (by kernel_rfl) hN (fun _ _ _ => by kernel_rfl) ?_
          exact trivial
        · intro w' hS
          have HB3 := Lib.hid (HB.out.trans (hS.mono HB.out.size))
          clear hS hN
          go_wp2
          go_ret
          exact ⟨by rw [HR3.out]; try rfl, HB3.out⟩
end Go.Proofs.Ytiihdbchchnncaa
