import Derived.Laws.EntriesVeiled
import Derived.Test.YtiihdbchchnncaaO
import Derived.Test.YtiihdbchchnncaaC5
import Derived.Test.YtiihdbchchnncaaT1
namespace Go.Proofs.Ytiihdbchchnncaa
open Go Go.RowKit

/-- The bytes that a tree was made of. -/
def yieldL : Nat → TreeM → List Int
  | 0, _ => []
  | d + 1, .node p b _ _ kids => if p < 0 then [b] else kids.flatMap (yieldL d)
def byteC (b : Int) : Array Value := #[.int .u8 b]
theorem Try.info5 : (Try.prog.info? 5).map (fun i => (i.zero, i.size, i.bytes)) = some (some (.int .u8 0), 1, 1) := by kernel_rfl

set_option maxRecDepth 100000 in
set_option maxHeartbeats 2000000 in
theorem appendYield_any (w0 : World) (d : Nat) : ∀ (t : TreeM) (w : World) (v : Value) (L : List Int), TreeIn w0 t → TFit d t → nestB d t = true → Below w0.heap.size w0 w → w.ownsRow w0.heap.size 5 1 v L.length (cellsL byteC L) → L.length + (yieldL d t).length ≤ 1099511627776 →
    Calls Try.prog 49 #[v, treeV t] w fun e w' => ∃ v', e = .returned v' ∧ w'.ownsRow w0.heap.size 5 1 v' (L ++ yieldL d t).length (cellsL byteC (L ++ yieldL d t)) ∧ Below w0.heap.size w0 w' := by
  obtain ⟨i5, hi, hz0, hz1, hz2⟩ := info_parts Try.info5
  induction d with
  | zero => intro t w v L _ _ h; unfold nestB at h; cases h
  | succ d ih =>
  intro t w v L ht hfit hnest hB hown hlen
  obtain ⟨p, b, ka, kc, kids⟩ := t
  rw [tree_in] at ht
  obtain ⟨hkl, ⟨n, rfl, hn⟩, hkf⟩ := hfit
  have HNe := Lib.hid (List.all_eq_true.1 (show kids.all (nestB d) = true from hnest))
  have HKf := Lib.hid hkf
  have HIh := Lib.hid ih
  have HTr := Lib.hid ht
  have hb1 := Blk.new w 51 #[.int .i64 p, .int .u8 (n : Nat), .slice ka kids.length kc]
  have hBw : Below w.heap.size w (w.alloc (.cells #[.int .i64 p, .int .u8 (n : Nat), .slice ka kids.length kc] 51)) := (Below.refl _ _).alloc (Nat.le_refl _) _
  have hs0 := hB.size
  have hB1 := hB.trans (hBw.mono hs0)
  have hown1 := own_below hown hBw (Nat.le_refl _)
  by_cases hp : p < 0
  · have HY : Hid (yieldL (d + 1) (.node p (n : Int) ka kc kids) = [(n : Int)]) := Lib.hid (by rw [yieldL, if_pos hp])
    rw [HY.out] at hlen ⊢
    simp only [List.length_singleton] at hlen
    have hB2 : Below w.heap.size w ((w.alloc (.cells #[.int .i64 p, .int .u8 (n : Nat), .slice ka kids.length kc] 51)).alloc (.cells #[.int .u8 (n : Nat)] 5)) := hBw.alloc (by simp) _
    have hown2 := own_below hown hB2 (Nat.le_refl _)
    have HO2 := Lib.hid hown2
    have HB2 := Lib.hid (hB.trans (hB2.mono hs0))
    have HCN := cells_new (w.alloc (.cells #[.int .i64 p, .int .u8 (n : Nat), .slice ka kids.length kc] 51)) #[.int .u8 (n : Nat)] 5
    rw [World.size_alloc] at HCN
    have HCN := Lib.hid HCN
    clear ht hkf hnest ih hb1 hBw hB1 hown hown1 hown2 hB2 hB HNe HKf HIh HTr
    unfold treeV treeC
    go_enter Try.func49, Try.ntmps49
    go_wp2_with (at_builtin; refine wpList_append_own _ rfl (.tmp 10) (.tmp 13) 98 rfl w0.heap.size 5 i5 _ 1 1 Try.underlying98 hi hz0 hz1 hz2 rfl (by decide) _ _ _ rfl HO2.out ⟨w.heap.size + 1, 0, none⟩ 1 1 [.int .u8 (n : Nat)] rfl rfl HCN.out (by simp [Value.oneCell']) (by unfold maxLen; omega) (by omega) (by simp; omega) ?_; intro v5 w5 hown5 hgrow5 _)
    have hf5 := own_fin HO2.out HB2.out (Nat.le_refl _) hgrow5
    go_ret
    exact ⟨v5, rfl, by rw [cellsL_snoc]; exact hown5, hf5⟩
  · have HY : Hid (yieldL (d + 1) (.node p (n : Int) ka kc kids) = kids.flatMap (yieldL d)) := Lib.hid (by rw [yieldL, if_neg hp])
    rw [HY.out] at hlen ⊢
    have HLe := Lib.hid hlen
    obtain ⟨W1, hW1⟩ : ∃ W, W = w.alloc (.cells #[.int .i64 p, .int .u8 (n : Nat), .slice ka kids.length kc] 51) := ⟨_, rfl⟩
    rw [← hW1] at hb1 hB1 hown1
    have a0 := hb1.cell 0
    have a2 := hb1.cell 2
    simp only [List.getElem?_toArray, List.getElem?_cons_zero, List.getElem?_cons_succ] at a0 a2
    have l1 := hb1.lt
    have HB1 := Lib.hid hB1
    have HO1 : Hid (W1.ownsRow w0.heap.size 5 1 v (L ++ (kids.take 0).flatMap (yieldL d)).length (cellsL byteC (L ++ (kids.take 0).flatMap (yieldL d)))) := Lib.hid (by simpa using hown1)
    have HW1 := Lib.hid hW1
    clear ht hkf hnest ih hb1 hBw hB1 hown hown1 hB hlen hW1
    unfold treeV treeC
    go_enter Try.func49, Try.ntmps49
    go_wp2_with fail
    rw [← HW1.out]
    go_wp2
    go_loopw [0, 18] (fun u i wr => ∃ k : Nat, i = .int .i64 k ∧ k ≤ kids.length ∧ Hid (wr.ownsRow w0.heap.size 5 1 u (L ++ (kids.take k).flatMap (yieldL d)).length (cellsL byteC (L ++ (kids.take k).flatMap (yieldL d)))) ∧ Hid (Below w0.heap.size w0 wr))
      (fun _ i _ => kids.length - (intOf i).toNat)
    case atStart => exact ⟨0, rfl, Nat.zero_le _, HO1, HB1⟩
    case round =>
      clear HO1 HB1 a0 a2 l1 HW1
      obtain ⟨k, rfl, hk, hO, hB⟩ := hrel
      by_cases hlt : k < kids.length
      · obtain ⟨kd, hkd⟩ : ∃ y, kids[k]? = some y := ⟨_, List.getElem?_eq_getElem hlt⟩
        have hkm := List.mem_of_getElem? hkd
        have HTk : Hid (L ++ (kids.take (k + 1)).flatMap (yieldL d) = (L ++ (kids.take k).flatMap (yieldL d)) ++ yieldL d kd) := Lib.hid (by rw [take_snoc _ k _ hkd, List.flatMap_append, List.append_assoc]; simp)
        have hle : (L ++ (kids.take k).flatMap (yieldL d)).length + (yieldL d kd).length ≤ 1099511627776 := by
          have h1 := HLe.out
          have h2 : (kids.flatMap (yieldL d)).length = ((kids.take (k + 1)).flatMap (yieldL d)).length + ((kids.drop (k + 1)).flatMap (yieldL d)).length := by
            rw [← List.length_append, ← List.flatMap_append, List.take_append_drop]
          have h3 := congrArg List.length HTk.out
          rw [List.length_append, List.length_append (bs := yieldL d kd)] at h3
          omega
        obtain ⟨kb, ko, rfl, hkb, hkc, hki⟩ := HTr.out k kd hkd
        obtain ⟨W2, hW2⟩ : ∃ W, W = wr.alloc (.cells (treeC kd) 51) := ⟨_, rfl⟩
        have hB2w : Below wr.heap.size wr W2 := by rw [hW2]; exact (Below.refl _ _).alloc (Nat.le_refl _) _
        have HC := Lib.hid (HIh.out kd W2 u0 (L ++ (kids.take k).flatMap (yieldL d)) hki (HKf.out kd hkm) (HNe.out kd hkm) (hB.out.trans (hB2w.mono hB.out.size)) (own_below hO.out hB2w (Nat.le_refl _)) hle)
        have HW2 := Lib.hid hW2
        rw [← HTk.out] at HC
        have hcell := hkc.below hB.out hkb
        have lkb := Nat.lt_of_lt_of_le hkb hB.out.size
        clear hkd hkc hki hO hle hW2 hB2w
        obtain ⟨tp, tb, ta, tc, tk⟩ := kd
        obtain ⟨t0, t1, t2⟩ := Tree_at hcell
        unfold treeV treeC at HC
        unfold treeC at HW2
        have k1 : (k : Int) < (kids.length : Int) := by omega
        clear hcell
        go_wp2_with fail
        rw [← HW2.out]
        with_reducible refine HC.out.mono ?_
        rintro e w5 ⟨v5, rfl, hO5, hB5⟩
        have HO5 := Lib.hid hO5
        have HB5 := Lib.hid hB5
        clear hO5 hB5
        go_wp2
        go_roundw
        case rel => exact ⟨k + 1, by go_num, by omega, HO5, HB5⟩
        case measure => simp [intOf]; omega
      · obtain rfl : k = kids.length := by omega
        have hO2 := hO.out
        rw [List.take_length] at hO2
        go_wp2
        go_ret
        exact ⟨_, rfl, hO2, hB.out⟩
end Go.Proofs.Ytiihdbchchnncaa
