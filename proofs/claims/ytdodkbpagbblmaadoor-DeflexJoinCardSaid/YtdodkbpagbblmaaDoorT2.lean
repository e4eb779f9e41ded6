import Derived.Test.YtdodkbpagbblmaaDoorT
namespace Go.Proofs.YtdodkbpagbblmaaDoor
open Go Go.RowKit

theorem blk_others {W W' : World} {B t : Nat} {cs : Array Value} (h : Blk W B t cs) (ht : t ≠ 5) (hk : Lib.OthersKept 5 none W W') : Blk W' B t cs :=
  hk B _ h (by simp) (fun c fz e => by cases e; exact ht rfl)

/-- A range's text. -/
def rangeT (r : Nat × Nat) : List Nat :=
  if r.1 = r.2 then byteT r.1 else if 1 < (r.2 + 256 - r.1) % 256 then byteT r.1 ++ [45] ++ byteT r.2 else byteT r.1 ++ byteT r.2

theorem byteT_len (b : Nat) : (byteT b).length ≤ 4 := by
  unfold byteT
  repeat (split; simp)
  simp

set_option maxRecDepth 100000 in
set_option maxHeartbeats 4000000 in
theorem appendRange_any (v : Value) (l : List Nat) (r : Nat × Nat) (h1 : r.1 < 256) (h2 : r.2 < 256) (n₀ : Nat) (w : World) (hown : w.ownsRow n₀ 5 1 v l.length (l.map byteV)) (hn : n₀ ≤ w.heap.size) (hl : l.length ≤ 1000000) :
    Calls Tryd.prog 49 #[v, .agg #[.int .u8 r.1, .int .u8 r.2]] w (bytePost (l ++ rangeT r) n₀ w) := by
  obtain ⟨i0, hi, hz0, hz1, hz2⟩ := info_parts Tryd.info5
  obtain ⟨f, t⟩ := r
  dsimp only at h1 h2 ⊢
  have HA := Lib.hid (appendByte_any v l f h1 n₀ (w.alloc (.cells #[.int .u8 f, .int .u8 t] 88)) (hown.alloc _) (by simp; omega) (by omega))
  have hlen1 := byteT_len f
  go_enter Tryd.func49, Tryd.ntmps49
  go_wp2_with fail
  refine HA.out.mono ?_
  rintro e w1 ⟨v1, rfl, hown1, hk1, hB1⟩
  have hb1 := blk_others (Blk.new w 88 #[.int .u8 f, .int .u8 t]) (by decide) hk1
  have c0 : w1.cell? ⟨w.heap.size, 0, none⟩ = some (.int .u8 f) := hb1.cell 0
  have c1 : w1.cell? ⟨w.heap.size, 1, none⟩ = some (.int .u8 t) := hb1.cell 1
  have HK1 := Lib.hid (((Lib.OthersKept.refl 5 none w).alloc (.cells #[.int .u8 f, .int .u8 t] 88)).trans hk1)
  have HB1 := Lib.hid (((Below.refl n₀ w).alloc hn (.cells #[.int .u8 f, .int .u8 t] 88)).trans hB1)
  have HO1 := Lib.hid hown1
  have hn1 : n₀ ≤ w1.heap.size := Nat.le_trans (by simp; omega) hB1.size
  have hll : (l ++ byteT f).length ≤ 1000010 := by simp; omega
  have HBK := Lib.hid hb1
  clear hk1 hB1 HA hb1
  by_cases e1 : f = t
  · subst e1
    have hR : rangeT (f, f) = byteT f := by unfold rangeT; simp
    have HRR := Lib.hid hR
    clear hR
    go_wp2
    go_ret
    exact ⟨v1, rfl, by rw [HRR.out]; exact HO1.out, HK1.out, HB1.out⟩
  · have e1' : ((f : Int) == (t : Int)) = false := by simpa using fun h => e1 (by omega)
    have hsub : IntKind.u8.wrap ((t : Int) - (f : Int)) = (((t + 256 - f) % 256 : Nat) : Int) := by rw [IntKind.wrap_u8']; omega
    obtain ⟨l1, hl1⟩ : ∃ l1, l1 = l ++ byteT f := ⟨_, rfl⟩
    rw [← hl1] at HO1 hll
    have HA2 : Hid (∀ (l2 : List Nat) (v2 : Value) (w2 : World), l2.length ≤ 1000020 → w2.ownsRow n₀ 5 1 v2 l2.length (l2.map byteV) → n₀ ≤ w2.heap.size → Calls Tryd.prog 65 #[v2, .int .u8 t] w2 (bytePost (l2 ++ byteT t) n₀ w2)) :=
      fun l2 v2 w2 a b c => appendByte_any v2 l2 t h2 n₀ w2 b c (by omega)
    clear hown1
    by_cases e2 : 1 < (t + 256 - f) % 256
    · have hR : Hid (l ++ rangeT (f, t) = (l1 ++ [45]) ++ byteT t) := by refine Lib.hid ?_; unfold rangeT; rw [hl1, if_neg e1, if_pos e2]; simp
      clear hl1
      have e2' : (1 : Int) < ((t : Int) - (f : Int)) % 256 := by omega
      go_wp2_with (first
        | (at_builtin; refine wpList_append_own _ rfl _ _ 22 rfl n₀ 5 i0 (.int .u8 0) 1 1 Tryd.underlying22 hi hz0 hz1 hz2 rfl (by decide) _ _ _ rfl (HO1.out.alloc _) ⟨w1.heap.size, 0, none⟩ 1 1 [.int .u8 45] rfl rfl (cell_one_new _ _ _) (by simp [Value.oneCell']) (by unfold maxLen; omega) (by omega) (by simp; omega) ?_; intro v2 w2 hown2 hgrow _; have hf2 := own_fin (HO1.out.alloc _) ((Lib.OthersKept.refl 5 none w1).alloc _) ((Below.refl n₀ w1).alloc hn1 _) hn1 hgrow; have d1 : w2.cell? ⟨w.heap.size, 1, none⟩ = some (.int .u8 t) := (blk_others HBK.out (by decide) hf2.1).cell 1)
        | fail)
      have HO2 : w2.ownsRow n₀ 5 1 v2 (l1 ++ [45]).length ((l1 ++ [45]).map byteV) := by
        have a1 : (l1 ++ [45]).length = l1.length + 1 := by simp
        have a2 : (l1 ++ [45]).map byteV = l1.map byteV ++ [.int .u8 45] := by simp [byteV]
        rw [a1, a2]; exact hown2
      refine (HA2.out (l1 ++ [45]) v2 w2 (by simp; omega) HO2 (Nat.le_trans hn1 hf2.2.size)).mono ?_
      rintro e w3 ⟨v3, rfl, hown3, hk3, hB3⟩
      go_wp2
      go_ret
      exact ⟨v3, rfl, by rw [hR.out]; exact hown3, (HK1.out.trans hf2.1).trans hk3, (HB1.out.trans hf2.2).trans hB3⟩
    · have hR : Hid (l ++ rangeT (f, t) = l1 ++ byteT t) := by refine Lib.hid ?_; unfold rangeT; rw [hl1, if_neg e1, if_neg e2]; simp
      clear hl1
      have e2' : ¬ (1 : Int) < ((t : Int) - (f : Int)) % 256 := by omega
      go_wp2_with fail
      refine (HA2.out l1 v1 w1 (by omega) HO1.out hn1).mono ?_
      rintro e w3 ⟨v3, rfl, hown3, hk3, hB3⟩
      go_wp2
      go_ret
      exact ⟨v3, rfl, by rw [hR.out]; exact hown3, HK1.out.trans hk3, HB1.out.trans hB3⟩
end Go.Proofs.YtdodkbpagbblmaaDoor
