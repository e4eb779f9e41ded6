import Derived.Test.YtdodkbpagbblmaaDoorQ12
namespace Go.Proofs.YtdodkbpagbblmaaDoor
open Go Go.RowKit

/-- What Lex leaves. -/
def LexP (t : ByteArray) (w : World) (e : Ending) (w' : World) : Prop :=
  Below w.heap.size w w' ∧ ((1048576 < t.size ∧ e = .returned (.tuple #[.slice none 0 0, .int .i64 0, .int .i64 3]))
    ∨ (t.size ≤ 1048576 ∧ ∃ a, (lexAt t.data.toList 0).2 = some a ∧ e = .returned (.tuple #[.slice none 0 0, .int .i64 a, .int .i64 130]))
    ∨ (t.size ≤ 1048576 ∧ (lexAt t.data.toList 0).2 = none ∧ ∃ v, e = .returned (.tuple #[v, .int .i64 0, .int .i64 0]) ∧ w'.ownsRow w.heap.size 38 8 v (lexAt t.data.toList 0).1.length (cellsW (lexAt t.data.toList 0).1)))

theorem own_base {w : World} {b b' e size n : Nat} {v : Value} {xs : List Value} (h : w.ownsRow b e size v n xs) (hb : b' ≤ b) : w.ownsRow b' e size v n xs := by
  refine ⟨h.1, ?_⟩
  rcases h.2 with h1 | ⟨g, cap, cur, h1, h2, h3⟩
  · exact .inl h1
  · exact .inr ⟨g, cap, cur, h1, Nat.le_trans hb h2, h3⟩
theorem cell_eight_new (w : World) (a0 a1 a2 a3 a4 a5 a6 a7 : Value) (t : TypeId) : ∀ j u, [a0, a1, a2, a3, a4, a5, a6, a7][j]? = some u → (w.alloc (.cells #[a0, a1, a2, a3, a4, a5, a6, a7] t)).cell? ((⟨w.heap.size, 0, none⟩ : Addr).add j) = some u :=
  World.news_of_block (cs := #[a0, a1, a2, a3, a4, a5, a6, a7]) (Blk.new w t _)

theorem cell_eight_next (w : World) (o : Obj) (a0 a1 a2 a3 a4 a5 a6 a7 : Value) (t : TypeId) : ∀ j u, [a0, a1, a2, a3, a4, a5, a6, a7][j]? = some u → ((w.alloc o).alloc (.cells #[a0, a1, a2, a3, a4, a5, a6, a7] t)).cell? ((⟨w.heap.size + 1, 0, none⟩ : Addr).add j) = some u := by
  have h := cell_eight_new (w.alloc o) a0 a1 a2 a3 a4 a5 a6 a7 t
  rw [World.size_alloc] at h
  exact h

set_option maxRecDepth 100000 in
set_option maxHeartbeats 8000000 in
theorem lex_any (t : ByteArray) (w : World) (hG : GlobD w) : Calls Tryd.prog 7 #[.string t] w (LexP t w) := by
  by_cases hbig : 1048576 < t.size
  · have d1 : (1048576 : Int) < t.size := by omega
    go_enter Tryd.func7, Tryd.ntmps7
    go_wp2
    go_ret3
    exact ⟨Below.refl _ _, .inl ⟨hbig, rfl⟩⟩
  · have ht : t.size ≤ 1048576 := by omega
    have d1 : ¬ (1048576 : Int) < t.size := by omega
    obtain ⟨i0, hi, hz0, hz1, hz2⟩ := info_parts Tryd.info38
    have hmf : ∀ (fn : Fn) (first cap : Array Value) (w : World), (Instr.makeFunc fn first cap).run Tryd.prog w = .ok (.func fn first cap) w := fun _ _ _ _ => rfl
    have HG := Lib.hid hG
    have hBig := hG.big
    have hr0 : Hid (Rdr (w.alloc (.cells #[.string t, .int .i64 0] 47)) w.heap.size t 0) := Lib.hid (Blk.new w 47 _)
    have hO0 : Hid ((w.alloc (.cells #[.string t, .int .i64 0] 47)).ownsRow (w.heap.size + 1) 38 8 (.slice none 0 0) ([] : List (Wd × Nat)).length (cellsW [])) := World.ownsRow_nil _ _ _ _
    have hB0 : Hid (Below w.heap.size w (w.alloc (.cells #[.string t, .int .i64 0] 47))) := (Below.refl _ w).alloc (Nat.le_refl _) _
    clear hG
    go_enter Tryd.func7, Tryd.ntmps7
    go_wp2_with fail
    go_loopg [5, 8, 9, 10] (t.size) (fun n v a b c wr => ∃ (k : Nat) (ws : List (Wd × Nat)), k ≤ t.size ∧ n = t.size - k ∧ ws.length ≤ k
        ∧ Hid (lexAt t.data.toList 0 = (ws ++ (lexAt (t.data.toList.drop k) k).1, (lexAt (t.data.toList.drop k) k).2))
        ∧ Hid (Rdr wr w.heap.size t k) ∧ Hid (wr.ownsRow (w.heap.size + 1) 38 8 v ws.length (cellsW ws)) ∧ Hid (Below w.heap.size w wr))
    case atStart => exact ⟨0, [], Nat.zero_le _, rfl, Nat.le_refl _, Lib.hid (by simp), hr0, hO0, hB0⟩
    case round =>
      clear hr0 hO0 hB0
      obtain ⟨k, ws, hk, rfl, hws, hL, hR, hO, hB⟩ := hrel
      have hsk := skipL_le (t.data.toList.drop k)
      rw [drop_len] at hsk
      have HT := Lib.hid (taken_any w.heap.size t k ht hk wr (HG.out.below (Nat.le_refl _) hB.out) hR.out hBig)
      have hdd : (t.data.toList.drop k).drop (skipL (t.data.toList.drop k)) = t.data.toList.drop (k + skipL (t.data.toList.drop k)) := List.drop_drop
      have HE : Hid (k + skipL (t.data.toList.drop k) = t.size → lexAt (t.data.toList.drop k) k = ([], none)) := Lib.hid (fun h => lexAt_end _ _ (by rw [hdd, h]; exact List.drop_eq_nil_of_le (by rw [← Lib.size_eq]; omega)))
      have hne0 : k + skipL (t.data.toList.drop k) ≠ t.size → (t.data.toList.drop k).drop (skipL (t.data.toList.drop k)) ≠ [] := fun h e => by
        have := congrArg List.length e
        rw [hdd, drop_len] at this
        simp at this
        omega
      have HBad : Hid (k + skipL (t.data.toList.drop k) ≠ t.size → nextW (t.data.toList.drop (k + skipL (t.data.toList.drop k))) = none → lexAt (t.data.toList.drop k) k = ([], some (k + skipL (t.data.toList.drop k)))) :=
        Lib.hid (fun h h2 => lexAt_bad _ _ (hne0 h) (by rw [hdd]; exact h2))
      have HSt : Hid (∀ p, k + skipL (t.data.toList.drop k) ≠ t.size → nextW (t.data.toList.drop (k + skipL (t.data.toList.drop k))) = some p → lexAt (t.data.toList.drop k) k = ((p.1, k + skipL (t.data.toList.drop k)) :: (lexAt (t.data.toList.drop (k + skipL (t.data.toList.drop k) + p.2)) (k + skipL (t.data.toList.drop k) + p.2)).1, (lexAt (t.data.toList.drop (k + skipL (t.data.toList.drop k) + p.2)) (k + skipL (t.data.toList.drop k) + p.2)).2)) := by
        refine Lib.hid fun p h h2 => ?_
        have := lexAt_step (t.data.toList.drop k) k p (hne0 h) (by rw [hdd]; exact h2)
        rw [hdd, List.drop_drop] at this
        exact this
      obtain ⟨m, hm⟩ : ∃ m, m = k + skipL (t.data.toList.drop k) := ⟨_, rfl⟩
      rw [← hm] at HT HE HBad HSt
      have hmt : m ≤ t.size := by omega
      have hkm : k ≤ m := by omega
      have Hlen : Hid (∀ p, nextW (t.data.toList.drop m) = some p → 1 ≤ p.2 ∧ m + p.2 ≤ t.size) := Lib.hid (fun p h => by
        have := nextW_len _ p h
        rw [drop_len] at this
        omega)
      clear hm hdd hne0 hsk
      go_wp2_with fail
      refine HT.out.mono ?_
      rintro e w1 ⟨hg1, h1⟩
      have hB1 : Hid (Below w.heap.size w w1) := Lib.hid (hB.out.grown hg1 hB.out.size (fun i e => by cases e; exact Nat.le_refl _))
      have hO1 : Hid (w1.ownsRow (w.heap.size + 1) 38 8 u5 ws.length (cellsW ws)) := by
        refine Lib.hid (hO.out.kept hg1 (.inr ?_))
        intro e
        have := (hO.out.lt w.heap.size e).1
        omega
      have hsz1 : w.heap.size < w1.heap.size := by have h := hR.out.lt; have := hg1.size; omega
      clear hg1 HT hO hB
      by_cases hend : m = t.size
      · rw [if_pos hend] at h1
        obtain ⟨rfl, hr1⟩ := h1
        have HN : Hid (lexAt t.data.toList 0 = (ws, none)) := Lib.hid (by rw [hL.out, HE.out hend]; simp)
        clear HE HBad HSt Hlen hL hend hr1
        unfold wordV wordC
        go_wp2
        go_ret3
        refine ⟨hB1.out.alloc (Nat.le_of_lt hsz1) _, .inr (.inr ⟨ht, by rw [HN.out], _, rfl, ?_⟩)⟩
        rw [HN.out]
        exact own_base (hO1.out.alloc _) (Nat.le_succ _)
      · rw [if_neg hend] at h1
        cases hnw : nextW (t.data.toList.drop m) with
        | none =>
          rw [hnw] at h1
          obtain ⟨rfl, hr1⟩ := h1
          have HN : Hid (lexAt t.data.toList 0 = (ws, some m)) := Lib.hid (by rw [hL.out, HBad.out hend hnw]; simp)
          have HR1 := Lib.hid hr1
          have r1 : w1.cell? ⟨w.heap.size, 1, none⟩ = some (.int .i64 (m : Int)) := hr1.cell 1
          clear HE HBad HSt Hlen hL hend hr1 hnw
          unfold wordV wordC
          go_wp2
          go_region
          go_wp2
          go_ret3
          exact ⟨(hB1.out.alloc (Nat.le_of_lt hsz1) _).drew, .inr (.inl ⟨ht, m, by rw [HN.out], rfl⟩)⟩
        | some p =>
          rw [hnw] at h1
          obtain ⟨rfl, hr1⟩ := h1
          have hst := HSt.out p hend hnw
          obtain ⟨hp1, hp2⟩ := Hlen.out p hnw
          have HN : Hid (lexAt t.data.toList 0 = ((ws ++ [(p.1, m)]) ++ (lexAt (t.data.toList.drop (m + p.2)) (m + p.2)).1, (lexAt (t.data.toList.drop (m + p.2)) (m + p.2)).2)) := Lib.hid (by rw [hL.out, hst]; simp)
          have HR1 := Lib.hid hr1
          clear HE HBad HSt Hlen hL hend hr1 hnw hst
          unfold wordV wordC
          go_wp2_with (at_builtin; refine wpList_append_own _ rfl _ _ 23 rfl (w.heap.size + 1) 38 i0 _ 8 72 Tryd.underlying23 hi hz0 hz1 hz2 rfl (by decide) _ _ _ rfl ((hO1.out.alloc _).alloc _) ⟨w1.heap.size + 1, 0, none⟩ 1 1 (wcells (p.1, m)) rfl rfl (cell_eight_next w1 _ _ _ _ _ _ _ _ _ 38) (by simp [wcells, Value.oneCell']) (by unfold maxLen; omega) (by omega) (by simp; omega) ?_; intro v2 w2 hown2 hgrow _)
          have hB2 : Below (w.heap.size + 1) w1 ((w1.alloc (.cells #[.int .i64 p.1.kind, .int .i64 (m : Int), .string p.1.txt, .int .u64 (wdI p.1.set 0), .int .u64 (wdI p.1.set 1), .int .u64 (wdI p.1.set 2), .int .u64 (wdI p.1.set 3), .int .i64 p.1.num] 38)).alloc (.cells #[.int .i64 p.1.kind, .int .i64 (m : Int), .string p.1.txt, .int .u64 (wdI p.1.set 0), .int .u64 (wdI p.1.set 1), .int .u64 (wdI p.1.set 2), .int .u64 (wdI p.1.set 3), .int .i64 p.1.num] 38)) := ((Below.refl _ w1).alloc (by omega) _).alloc (by simp; omega) _
          have hB3 := hB2.grown hgrow (by simp; omega) (fun i e => (hO1.out.lt i e).1)
          have HR2 := Lib.hid (HR1.out.below hB3 (by omega))
          have hB4 := Lib.hid (hB1.out.trans (hB3.mono (by omega)))
          have hO2 : Hid (w2.ownsRow (w.heap.size + 1) 38 8 v2 (ws ++ [(p.1, m)]).length (cellsW (ws ++ [(p.1, m)]))) := by
            refine Lib.hid ?_
            rw [cellsW_snoc, List.length_append]
            exact hown2
          clear hown2 hgrow hB2 hB3 hO1 hB1 HR1
          go_wp2
          go_roundg (t.size - (m + p.2))
          case measure => omega
          case rel => exact ⟨m + p.2, ws ++ [(p.1, m)], by omega, rfl, by simp; omega, HN, HR2, hO2, hB4⟩
end Go.Proofs.YtdodkbpagbblmaaDoor
