import Derived.Laws.BytesArg
import Derived.Test.YtiihdbchchnncaaT4
namespace Go.Proofs.Ytiihdbchchnncaa
open Go Go.RowKit

theorem cellsB (L : List Int) : cellsL byteC L = L.map fun b => Value.int .u8 b := by
  unfold cellsL byteC
  induction L with
  | nil => rfl
  | cons x r ih => rw [List.flatMap_cons, ih]; rfl
theorem conv_nil (w : World) : (convert 98 9 (.slice none 0 0)).run Try.prog w = .ok (.string (strOfNums [])) w := by kernel_rfl
theorem conv_any {n₀ : Nat} (v : Value) (w : World) (L : List Int) (ho : w.ownsRow n₀ 5 1 v L.length (cellsL byteC L)) :
    (convert 98 9 v).run Try.prog w = .ok (.string (strOfNums L)) w := by
  have ho' := ho
  rcases ho.2 with ⟨rfl, h0⟩ | ⟨g, cap, cur, rfl, _⟩
  · have : L = [] := List.length_eq_zero_iff.1 h0
    subst this
    exact conv_nil w
  · refine run_convert_bytes_arg w 98 5 Try.underlying98 Try.underlying5 g 0 L.length cap L rfl ?_ 9 Try.underlying9
    intro i hi
    rw [Nat.zero_add, ho'.cellAt i (by omega), cellsB]
    simp [List.getD, hi]

set_option maxRecDepth 100000 in
set_option maxHeartbeats 2000000 in
theorem yield_any (t : TreeM) (w : World) (ht : TreeIn w t) (hfit : TFit 16384 t) (hlen : (yieldL 16384 t).length ≤ 1099511627776) :
    Calls Try.prog 21 #[treeV t] w fun e w' => e = .returned (if nestB 16384 t then .tuple #[.string (strOfNums (yieldL 16384 t)), .int .i64 0] else .tuple #[.string ⟨#[]⟩, .int .i64 3]) ∧ Below w.heap.size w w' := by
  obtain ⟨W1, hW1⟩ : ∃ W, W = w.alloc (.cells (treeC t) 51) := ⟨_, rfl⟩
  have hB1 : Below w.heap.size w W1 := by rw [hW1]; exact (Below.refl _ _).alloc (Nat.le_refl _) _
  have hb := Blk.new w 51 (treeC t)
  rw [← hW1] at hb
  have HB := Lib.hid hB1
  have HN := Lib.hid (nested_any 16384 (by omega) t W1 (TreeIn.below hB1 t ht) hfit)
  rw [show ((16384 : Nat) : Int) = 16384 from rfl] at HN
  have HY := Lib.hid (fun (h : nestB 16384 t = true) W (hW : Below W1.heap.size W1 W) => appendYield_any W 16384 t W (.slice none 0 0) [] (TreeIn.below (hB1.trans (hW.mono hB1.size)) t ht) hfit h (Below.refl _ _) (World.ownsRow_nil _ _ _ _) (by simpa using hlen))
  have HW := Lib.hid hW1
  have Hb := Lib.hid hb
  clear ht hfit hlen hB1 hb hW1
  generalize yieldL 16384 t = Y at *
  cases hq : nestB 16384 t with
  | false =>
    rw [hq] at HN
    clear HY hq
    obtain ⟨p, b, ka, kc, kids⟩ := t
    unfold treeV treeC at *
    go_enter Try.func21, Try.ntmps21
    go_wp2_with fail
    rw [← HW.out]
    with_reducible refine HN.out.mono ?_
    rintro e w3 ⟨rfl, hB3⟩
    have HF := Lib.hid (HB.out.trans (hB3.mono HB.out.size))
    clear hB3
    go_wp2
    go_ret2
    exact ⟨rfl, HF.out⟩
  | true =>
    rw [hq] at HN
    have HY := Lib.hid (HY.out hq)
    clear hq
    obtain ⟨p, b, ka, kc, kids⟩ := t
    unfold treeV treeC at *
    go_enter Try.func21, Try.ntmps21
    go_wp2_with fail
    rw [← HW.out]
    with_reducible refine HN.out.mono ?_
    rintro e w3 ⟨rfl, hB3⟩
    have HB3 := Lib.hid (HB.out.trans (hB3.mono HB.out.size))
    have HY3 := Lib.hid (HY.out w3 hB3)
    have c := (Hb.out.below hB3 Hb.out.lt)
    have c0 := c.cell 0
    have c1 := c.cell 1
    have c2 := c.cell 2
    simp only [List.getElem?_toArray, List.getElem?_cons_zero, List.getElem?_cons_succ] at c0 c1 c2
    have l3 := c.lt
    clear hB3 HY c
    rw [List.nil_append] at HY3
    go_wp2_with fail
    with_reducible refine HY3.out.mono ?_
    rintro e w4 ⟨v, rfl, hO, hB4⟩
    have HCv := conv_any v w4 Y hO
    have HB4 := Lib.hid (HB3.out.trans (hB4.mono HB3.out.size))
    clear hO hB4
    go_wp2
    go_ret2
    exact ⟨rfl, HB4.out⟩
end Go.Proofs.Ytiihdbchchnncaa
