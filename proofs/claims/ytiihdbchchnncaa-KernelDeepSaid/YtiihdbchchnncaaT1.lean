import Derived.Test.YtiihdbchchnncaaATree
namespace Go.Proofs.Ytiihdbchchnncaa
open Go Go.RowKit

/-- Is a tree no deeper than that? -/
def nestB : Nat → TreeM → Bool
  | 0, _ => false
  | d + 1, .node _ _ _ _ kids => kids.all (nestB d)
/-- A tree whose lists are no longer than memory bears, so deep down. -/
def TFit : Nat → TreeM → Prop
  | 0, _ => True
  | d + 1, .node _ b _ _ kids => kids.length ≤ 1048576 ∧ (∃ n : Nat, b = n ∧ n < 256) ∧ ∀ k, k ∈ kids → TFit d k

set_option maxRecDepth 100000 in
set_option maxHeartbeats 2000000 in
theorem nested_any (d : Nat) (hd : d ≤ 1048576) : ∀ (t : TreeM) (w : World), TreeIn w t → TFit d t → Calls Try.prog 48 #[treeV t, .int .i64 d] w fun e w' => e = .returned (.bool (nestB d t)) ∧ Below w.heap.size w w' := by
  induction d with
  | zero =>
    intro t w _ _
    obtain ⟨p, b, ka, kc, kids⟩ := t
    have HB : Hid (Below w.heap.size w ((w.alloc (.cells #[.int .i64 p, .int .u8 b, .slice ka kids.length kc] 51)).alloc (.cells #[.int .i64 0] 3))) := Lib.hid (((Below.refl _ _).alloc (Nat.le_refl _) _).alloc (by simp) _)
    have HR : Hid (nestB 0 (.node p b ka kc kids) = false) := Lib.hid rfl
    unfold treeV treeC
    go_enter Try.func48, Try.ntmps48
    go_wp2
    go_ret
    exact ⟨by rw [HR.out]; try rfl, HB.out⟩
  | succ d ih =>
    intro t w ht hfit
    have HI := Lib.hid (ih (by omega))
    obtain ⟨p, b, ka, kc, kids⟩ := t
    rw [tree_in] at ht
    obtain ⟨hlen, _, hk⟩ := hfit
    have hB1 : Below w.heap.size w ((w.alloc (.cells #[.int .i64 p, .int .u8 b, .slice ka kids.length kc] 51)).alloc (.cells #[.int .i64 ((d + 1 : Nat) : Int)] 3)) := ((Below.refl _ _).alloc (Nat.le_refl _) _).alloc (by simp) _
    have hb := Blk.new (w.alloc (.cells #[.int .i64 p, .int .u8 b, .slice ka kids.length kc] 51)) 3 #[.int .i64 ((d + 1 : Nat) : Int)]
    rw [World.size_alloc] at hb
    have hd2 : ((d + 1 : Nat) : Int) - 1 = (d : Int) := by omega
    have Hd2 := Lib.hid hd2
    have hdr : (d : Int) ≤ 1048576 := by omega
    have hd0 : (0 : Int) < ((d + 1 : Nat) : Int) := by omega
    obtain ⟨n, hn⟩ : ∃ n : Int, n = ((d + 1 : Nat) : Int) := ⟨_, rfl⟩
    rw [← hn] at hB1 hb hd2 hd0 ⊢
    have hn2 : n ≤ 1048577 := by omega
    obtain ⟨W1, hW1⟩ : ∃ W1, W1 = (w.alloc (.cells #[.int .i64 p, .int .u8 b, .slice ka kids.length kc] 51)).alloc (.cells #[.int .i64 n] 3) := ⟨_, rfl⟩
    rw [← hW1] at hb hB1
    have HS : Hid (Says treeV (nestB d) kids 67 #[.pointer (some ⟨w.heap.size + 1, 0, none⟩)] W1) := Lib.hid (by
      intro x hx W hW
      have hxi : TreeIn W x := by
        obtain ⟨i, hi⟩ := List.mem_iff_getElem?.1 hx
        obtain ⟨_, _, _, _, _, h⟩ := ht i x hi
        exact TreeIn.below (hB1.trans (hW.mono hB1.size)) x h
      have hbW := hb.below hW hb.lt
      have HIx := Lib.hid (HI.out x _ (TreeIn.below ((Below.refl _ W).alloc (Nat.le_refl _) (.cells (treeC x) 51)) x hxi) (hk x hx))
      have HBx : Hid (Below W.heap.size W (W.alloc (.cells (treeC x) 51))) := Lib.hid ((Below.refl _ W).alloc (Nat.le_refl _) _)
      have c0 := hbW.cell 0
      simp only [List.getElem?_toArray, List.getElem?_cons_zero] at c0
      have lW := hbW.lt
      generalize nestB d x = r at *
      clear hxi hbW hx ht hk hlen HI hW hb hB1 hW1 Hd2
      obtain ⟨xp, xb, xa, xc, xk⟩ := x
      unfold treeV treeC at *
      go_enter Try.func67, Try.ntmps67
      go_wp2_with fail
      with_reducible refine HIx.out.mono ?_
      rintro e w3 ⟨rfl, hB3⟩
      have HF := Lib.hid (HBx.out.trans (hB3.mono HBx.out.size))
      clear hB3
      go_wp2
      go_ret
      exact ⟨by try rfl, HF.out⟩)
    have HA := Lib.hid (allTree_any ka kc kids (nestB d) 67 #[.pointer (some ⟨w.heap.size + 1, 0, none⟩)] (fun _ _ => by kernel_rfl) W1 (RowTree.below ht hB1) hlen HS.out)
    have HR : Hid (nestB (d + 1) (.node p b ka kc kids) = kids.all (nestB d)) := Lib.hid (by rw [nestB])
    have HB := Lib.hid hB1
    have HW := Lib.hid hW1
    have hmf : ∀ (fn : Fn) (first cap : Array Value) (w : World), (Instr.makeFunc fn first cap).run Try.prog w = .ok (.func fn first cap) w := fun _ _ _ _ => rfl
    clear hn ht hk hb hB1 hW1 hd2 HS HI Hd2
    generalize kids.all (nestB d) = r at *
    unfold treeV treeC
    go_enter Try.func48, Try.ntmps48
    go_wp2_with fail
    rw [← HW.out]
    with_reducible refine HA.out.mono ?_
    rintro e w3 ⟨rfl, hB3⟩
    have HF := Lib.hid (HB.out.trans (hB3.mono HB.out.size))
    clear hB3
    go_wp2
    go_ret
    exact ⟨by rw [HR.out]; try rfl, HF.out⟩
end Go.Proofs.Ytiihdbchchnncaa
