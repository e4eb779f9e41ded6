import Derived.Test.YtegmoeeeomjkgaaDoorMk2
import Derived.Test.YtegmoeeeomjkgaaDoorTr
import Derived.Test.YtegmoeeeomjkgaaDoorTt
import Derived.Test.YtegmoeeeomjkgaaDoorR4
namespace Go.Proofs.YtegmoeeeomjkgaaDoor
open Go Go.RowKit Go.Vals

set_option maxRecDepth 100000 in
set_option maxHeartbeats 4000000 in
theorem lawTexts_long (s : BS) (t : ByteArray) (w : World) (hG : Glob w) (h : 2000 < t.size) :
    Calls Tryd.prog 6 #[vset s, .string t] w fun e w' => e = .returned (.bool true) ∧ Below w.heap.size w w' := by
  have HW : Hid (∀ W, Below w.heap.size w W → Calls Tryd.prog 10 #[] W fun e w' => e = .returned (.bool true) ∧ Below W.heap.size W w') := fun W hB => works_any W (hG.below (Nat.le_refl _) hB)
  clear hG
  have h1' : (2000 : Int) < t.size := by omega
  have HB0 : Hid (Below w.heap.size w (w.alloc (.cells (cset s) 29))) := (Below.refl _ w).alloc (Nat.le_refl _) _
  clear h
  unfold vset
  go_enter Tryd.func6, Tryd.ntmps6
  go_wp2_with fail
  refine (HW.out _ HB0.out).mono ?_
  rintro e w1 ⟨rfl, hB⟩
  have HB := Lib.hid (HB0.out.trans (hB.mono HB0.out.size))
  clear hB HW HB0
  go_wp2
  go_ret
  exact ⟨rfl, HB.out⟩

set_option maxRecDepth 100000 in
set_option maxHeartbeats 8000000 in
theorem lawTexts_any (s : BS) (t : ByteArray) (w : World) (hG : Glob w) (h : t.size ≤ 2000) :
    Calls Tryd.prog 6 #[vset s, .string t] w fun e w' => e = .returned (.bool true) ∧ Below w.heap.size w w' := by
  have HG := Lib.hid hG
  clear hG
  have h1' : ¬ (2000 : Int) < t.size := by omega
  obtain ⟨su, ev, hV⟩ : ∃ su ev, readV (readS t.data.toList) = .tuple #[vset su, .int .i64 ev] := by
    cases readS t.data.toList with
    | none => exact ⟨0#256, 120, by unfold readV; rw [vset_zero]⟩
    | some u => exact ⟨u, 0, rfl⟩
  have K1 := fun w' h' => read_any t (by omega) w' h'
  have K2 := rread_any t h
  rw [hV] at K1 K2
  unfold vset at K1 K2
  have H1 := fun w' h' => Lib.hid (K1 w' h')
  have H2 := fun w' => Lib.hid (K2 w')
  clear K1 K2 hV
  have hB00 : Hid (Below w.heap.size w (w.alloc (.cells (cset s) 29))) := (Below.refl _ w).alloc (Nat.le_refl _) _
  unfold vset
  go_enter Tryd.func6, Tryd.ntmps6
  try simp only [List.append_eq, List.cons_append, List.nil_append]
  go_wp2_with fail
  refine (H1 _ (HG.out.below (Nat.le_refl _) hB00.out)).out.mono ?_
  rintro e w1 ⟨rfl, hB1⟩
  have hb := Lib.hid ((Blk.new w 29 (cset s)).below hB1 (by simp))
  have hB := Lib.hid (hB00.out.trans (hB1.mono (by simp)))
  clear hB1 hB00 H1
  go_wp2_with fail
  have hb2 : Hid (Blk (w1.alloc (.cells (cset su) 29)) w.heap.size 29 (cset s)) := hb.out.alloc _
  have hS2 := Lib.hid (Blk.new w1 29 (cset su))
  have hB2 : Hid (Below w.heap.size w (w1.alloc (.cells (cset su) 29))) := hB.out.alloc hB.out.size _
  refine (H2 _).out.mono ?_
  rintro e w2 ⟨rfl, hBx⟩
  have hb3 := Lib.hid (hb2.out.below hBx hb2.out.lt)
  have hS3 := Lib.hid (hS2.out.below hBx hS2.out.lt)
  have hB3 := Lib.hid (hB2.out.trans (hBx.mono hB2.out.size))
  clear hb hB hb2 hS2 hB2 hBx H2
  go_wp2_with fail
  have hb4 : Hid (Blk (w2.alloc (.cells (cset su) 29)) w.heap.size 29 (cset s)) := hb3.out.alloc _
  have hS4 : Hid (Blk (w2.alloc (.cells (cset su) 29)) w1.heap.size 29 (cset su)) := hS3.out.alloc _
  have hT4 := Lib.hid (Blk.new w2 29 (cset su))
  have HBz0 : Hid (Below w.heap.size w (w2.alloc (.cells (cset su) 29))) := hB3.out.alloc hB3.out.size _
  clear hb3 hS3 hB3
  obtain ⟨nB, hnB⟩ : ∃ nB, nB = w.heap.size := ⟨_, rfl⟩
  obtain ⟨nS, hnS⟩ : ∃ nS, nS = w1.heap.size := ⟨_, rfl⟩
  obtain ⟨nT, hnT⟩ : ∃ nT, nT = w2.heap.size := ⟨_, rfl⟩
  obtain ⟨wz, hwz⟩ : ∃ wz : World, wz = w2.alloc (.cells (cset su) 29) := ⟨_, rfl⟩
  have hwz2 : w2.alloc (.cells #[.int .u64 (wdI su 0), .int .u64 (wdI su 1), .int .u64 (wdI su 2), .int .u64 (wdI su 3)] 29) = wz := hwz.symm
  have HBz : Hid (Below w.heap.size w wz) := Lib.hid (by rw [hwz]; exact HBz0.out)
  rw [← hwz] at hb4 hS4 hT4
  rw [hwz2]
  rw [← hnB] at hb4
  rw [← hnS] at hS4 ⊢
  rw [← hnT] at hT4 ⊢
  have e2 : (.pointer (some ⟨w.heap.size, 0, none⟩) : Value) = .pointer (some ⟨nB, 0, none⟩) := by rw [hnB]
  rw [e2]
  clear e2 hwz hwz2 hnB hnS hnT HBz0
  have hN : ∀ w : World, Below w.heap.size w w := fun w => Below.refl _ w
  have AB : ∀ W, Below wz.heap.size wz W → Blk W nB 29 (cset s) := fun W h => hb4.out.below h hb4.out.lt
  have AS : ∀ W, Below wz.heap.size wz W → Blk W nS 29 (cset su) := fun W h => hS4.out.below h hS4.out.lt
  have AT : ∀ W, Below wz.heap.size wz W → Blk W nT 29 (cset su) := fun W h => hT4.out.below h hT4.out.lt
  have AG : ∀ W, Below wz.heap.size wz W → Glob W := fun W h => HG.out.below (Nat.le_refl _) (HBz.out.trans (h.mono HBz.out.size))
  clear hb4 hS4 hT4 HG
  refine wp_region_vals0 (N := fun W W' => Below W.heap.size W W') (S := fun W => Below wz.heap.size wz W)
    [vset s, .string (bytesStr (textS s)), vset s, .string (bytesStr (textS s)), .bool true, .bool true, vset su, vset su, .bool true, .bool true, .bool true, .int .i64 ev, .int .i64 ev, .int .i64 ev, .bool true, .bool true, .bool true, .bool true, .bool true, .bool true]
    #[vset s, .string t, .pointer (some ⟨nB, 0, none⟩), undef, .bool true, .pointer (some ⟨nS, 0, none⟩), .int .i64 ev, .pointer (some ⟨nT, 0, none⟩), .int .i64 ev, .string t, .int .i64 (t.size : Nat), .bool false, undef, .tuple #[vset su, .int .i64 ev], .string t, .tuple #[vset su, .int .i64 ev], vset su, .int .i64 ev, .tuple #[vset su, .int .i64 ev], .string t, .tuple #[vset su, .int .i64 ev], vset su, .int .i64 ev, vset s, .string (bytesStr (textS s)), vset s, .string (bytesStr (textS s)), .bool true, .bool true, vset su, vset su, .bool true, .bool true, .bool true, .int .i64 ev, .int .i64 ev, .int .i64 ev, .bool true, .bool true, .bool true, .bool true, .bool true]
    rfl (by kernel_rfl) (by kernel_rfl) (by kernel_rfl) hN (Below.refl _ wz).drew (fun W W' h hB => h.trans (hB.mono h.size)) ?_ ?_
  rotate_left
  · intro w' hS
    have hfin := Lib.hid (HBz.out.trans (hS.mono HBz.out.size))
    clear hS AB AS AT AG hN
    go_wp2
    go_ret
    exact ⟨rfl, hfin.out⟩
  refine Each.val 23 (vset s) (by kernel_rfl) (by kernel_rfl) (by kernel_rfl) hN (fun W hS _ => ex_load rfl (by kernel_rfl) (AB W hS)) ?_
  refine Each.call 24 (.string (bytesStr (textS s))) 38 #[vset s] (by kernel_rfl) (by kernel_rfl) (by kernel_rfl) (fun _ _ => by kernel_rfl) (fun W hS => text_any s W (AG W hS)) ?_
  refine Each.val 25 (vset s) (by kernel_rfl) (by kernel_rfl) (by kernel_rfl) hN (fun W hS _ => ex_load rfl (by kernel_rfl) (AB W hS)) ?_
  refine Each.call 26 (.string (bytesStr (textS s))) 39 #[vset s] (by kernel_rfl) (by kernel_rfl) (by kernel_rfl) (fun _ _ => by kernel_rfl) (fun W hS => rtext_any s W) ?_
  refine Each.val 27 (.bool true) (by kernel_rfl) (by kernel_rfl) (by kernel_rfl) hN (fun W hS _ => ex_eqS (s := bytesStr (textS s)) rfl (by kernel_rfl) (by kernel_rfl)) ?_
  refine Each.val 28 (.bool true) (by kernel_rfl) (by kernel_rfl) (by kernel_rfl) hN (fun _ _ _ => by kernel_rfl) ?_
  refine Each.val 29 (vset su) (by kernel_rfl) (by kernel_rfl) (by kernel_rfl) hN (fun W hS _ => ex_load rfl (by kernel_rfl) (AS W hS)) ?_
  refine Each.val 30 (vset su) (by kernel_rfl) (by kernel_rfl) (by kernel_rfl) hN (fun W hS _ => ex_load rfl (by kernel_rfl) (AT W hS)) ?_
  refine Each.val 31 (.bool true) (by kernel_rfl) (by kernel_rfl) (by kernel_rfl) hN (fun W hS _ => ex_eqT (s := su) (t := su) rfl (by kernel_rfl) (by kernel_rfl) (by simp)) ?_
  refine Each.val 32 (.bool true) (by kernel_rfl) (by kernel_rfl) (by kernel_rfl) hN (fun _ _ _ => by kernel_rfl) ?_
  refine Each.val 33 (.bool true) (by kernel_rfl) (by kernel_rfl) (by kernel_rfl) hN (fun _ _ _ => by kernel_rfl) ?_
  refine Each.val 34 (.int .i64 ev) (by kernel_rfl) (by kernel_rfl) (by kernel_rfl) hN (fun _ _ _ => by kernel_rfl) ?_
  refine Each.call 35 (.int .i64 ev) 14 #[.int .i64 ev] (by kernel_rfl) (by kernel_rfl) (by kernel_rfl) (fun _ _ => by kernel_rfl) (fun W hS => (num_any ev W).mono fun _ _ ⟨a, b⟩ => ⟨a, b ▸ Below.refl _ _⟩) ?_
  refine Each.val 36 (.int .i64 ev) (by kernel_rfl) (by kernel_rfl) (by kernel_rfl) hN (fun _ _ _ => by kernel_rfl) ?_
  refine Each.val 37 (.bool true) (by kernel_rfl) (by kernel_rfl) (by kernel_rfl) hN (fun W hS _ => ex_eqI (n := ev) rfl (by kernel_rfl) (by kernel_rfl)) ?_
  refine Each.val 38 (.bool true) (by kernel_rfl) (by kernel_rfl) (by kernel_rfl) hN (fun _ _ _ => by kernel_rfl) ?_
  refine Each.val 39 (.bool true) (by kernel_rfl) (by kernel_rfl) (by kernel_rfl) hN (fun _ _ _ => by kernel_rfl) ?_
  refine Each.call 40 (.bool true) 10 #[] (by kernel_rfl) (by kernel_rfl) (by kernel_rfl) (fun _ _ => by kernel_rfl) (fun W hS => works_any W (AG W hS)) ?_
  refine Each.val 41 (.bool true) (by kernel_rfl) (by kernel_rfl) (by kernel_rfl) hN (fun _ _ _ => by kernel_rfl) ?_
  refine Each.val 4 (.bool true) (by kernel_rfl) (by kernel_rfl) (by kernel_rfl) hN (fun _ _ _ => by kernel_rfl) ?_
  exact trivial

/-- The law, whole. -/
theorem lawTexts (s : BS) (t : ByteArray) (w : World) (hG : Glob w) : Calls Tryd.prog 6 #[vset s, .string t] w fun e w' => e = .returned (.bool true) ∧ Below w.heap.size w w' := by
  by_cases h : 2000 < t.size
  · exact lawTexts_long s t w hG h
  · exact lawTexts_any s t w hG (by omega)
end Go.Proofs.YtegmoeeeomjkgaaDoor
