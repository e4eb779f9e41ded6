import Derived.WalkMore
import Derived.Deep.LoopGhost
import Derived.Deep.DeepCutAuto
import Derived.Deep.RegionHeld3
import Derived.Deep.QuietTactic
import Derived.BigQuiet
import Derived.WalkLawsBesides
import Derived.WalkSpells
import Derived.Test.YtdodkbpagbblmaaGreatDoorM3
section
namespace Go.Proofs.YtdodkbpagbblmaaGreatDoor
open Go Go.RowKit Go.Shelf

theorem ranges_any (s : BS) (w : World) (hG : Glob w) :
    Calls Tryz.prog 70 #[vset s] w fun e W' => ∃ v, e = .returned v ∧ W'.ownsRow w.heap.size 103 2 v (rngs (bytesL s)).length (cellsR (rngs (bytesL s))) ∧ (v = .slice none 0 0 ↔ rngs (bytesL s) = []) ∧ Below w.heap.size w W' :=
  callsIn_wide.1 (ranges_in 6 (Nat.le_refl _) s w hG)

/-- The text of a set, without what is put ahead. -/
def rangesT (rs : List (Nat × Nat)) : List Nat := rs.flatMap rangeT
/-- A set's text. -/
def textS (s : BS) : List Nat := if 128 < cnt s then [91, 94] ++ rangesT (rngs (bytesL (~~~s))) ++ [93] else [91] ++ rangesT (rngs (bytesL s)) ++ [93]

def bytesStr (l : List Nat) : ByteArray := strOfNums (l.map fun n : Nat => (n : Int))

theorem rangesT_snoc (rs : List (Nat × Nat)) (r : Nat × Nat) : rangesT (rs ++ [r]) = rangesT rs ++ rangeT r := by simp [rangesT]
theorem rangeT_len (r : Nat × Nat) : (rangeT r).length ≤ 9 := by
  have h1 := byteT_len r.1
  have h2 := byteT_len r.2
  unfold rangeT
  split
  · omega
  · split
    · simp; omega
    · simp; omega
theorem rangesT_len (rs : List (Nat × Nat)) : (rangesT rs).length ≤ 9 * rs.length := by
  induction rs with
  | nil => simp [rangesT]
  | cons r rs ih =>
    have := rangeT_len r
    simp [rangesT] at ih ⊢
    omega

theorem cellsR_at (rs : List (Nat × Nat)) : ∀ (i : Nat) (x : Nat × Nat), rs[i]? = some x → (cellsR rs)[i * 2]? = some (.int .u8 x.1) ∧ (cellsR rs)[i * 2 + 1]? = some (.int .u8 x.2) := by
  induction rs with
  | nil => intro i x hx; simp at hx
  | cons r rs ih =>
    intro i x hx
    have hc : cellsR (r :: rs) = .int .u8 r.1 :: .int .u8 r.2 :: cellsR rs := by simp [cellsR]
    rw [hc]
    cases i with
    | zero => simp at hx; subst hx; exact ⟨rfl, rfl⟩
    | succ i =>
      have h := ih i x (by simpa using hx)
      have e1 : (i + 1) * 2 = i * 2 + 1 + 1 := by omega
      rw [e1]
      simpa using h

/-- Ranges as they lie behind a slice that owns them. -/
theorem owned_rowR {w : World} {n₀ : Nat} {v : Value} {rs : List (Nat × Nat)} (h : w.ownsRow n₀ 103 2 v rs.length (cellsR rs)) : ∃ a cap, v = .slice a rs.length cap ∧ RowR w a rs := by
  rcases h.2 with ⟨rfl, h0⟩ | ⟨g, cap, cur, rfl, _⟩
  · have : rs = [] := List.length_eq_zero_iff.1 h0
    subst this
    exact ⟨none, 0, rfl, fun i x hx => by simp at hx⟩
  · refine ⟨_, cap, rfl, fun i x hx => ?_⟩
    have hi := (List.getElem?_eq_some_iff.1 hx).1
    have hc := cellsR_at rs i x hx
    refine ⟨g, 0, rfl, ?_, ?_⟩
    · rw [Nat.zero_add, h.cellAt (i * 2) (by omega)]; exact hc.1
    · rw [Nat.zero_add, h.cellAt (i * 2 + 1) (by omega)]; exact hc.2

theorem own_below {w w' : World} {base : Nat} {e : TypeId} {size : Nat} {v : Value} {n : Nat} {xs : List Value} {N : Nat} (h : w.ownsRow base e size v n xs) (hB : Below N w w') (hN : w.heap.size ≤ N) : w'.ownsRow base e size v n xs := by
  refine ⟨h.1, ?_⟩
  rcases h.2 with h | ⟨g, cap, cur, h1, h2, h3, h4⟩
  · exact .inl h
  · exact .inr ⟨g, cap, cur, h1, h2, (hB.block g (Nat.lt_of_lt_of_le (Array.getElem?_eq_some_iff.1 h3).1 hN)).trans h3, h4⟩

theorem own_others {w w' : World} {base : Nat} {e : TypeId} {size : Nat} {v : Value} {n : Nat} {xs : List Value} (h : w.ownsRow base e size v n xs) (he : e ≠ 5) (hk : Lib.OthersKept 5 none w w') : w'.ownsRow base e size v n xs := by
  refine ⟨h.1, ?_⟩
  rcases h.2 with h | ⟨g, cap, cur, h1, h2, h3, h4⟩
  · exact .inl h
  · exact .inr ⟨g, cap, cur, h1, h2, hk g _ h3 (by simp) (fun c fz e' => by cases e'; exact he rfl), h4⟩

theorem conv_own {n₀ : Nat} (g c : Nat) (w : World) (l : List Nat) (n : Nat) (hn : l.length = n) (ho : w.ownsRow n₀ 5 1 (.slice (some ⟨g, 0, none⟩) n c) n (l.map byteV)) :
    (convert 58 9 (.slice (some ⟨g, 0, none⟩) n c)).run Tryz.prog w = .ok (.string (bytesStr l)) w := by
  refine run_convert_bytes_arg w 58 5 Tryz.underlying58 Tryz.underlying5 g 0 n c (l.map fun n : Nat => (n : Int)) (by simpa using hn) ?_ 9 Tryz.underlying9
  intro i hi
  rw [Nat.zero_add, ho.cellAt i (by omega)]
  simp [byteV, List.getD, show i < l.length by omega]

set_option maxRecDepth 100000 in
set_option maxHeartbeats 4000000 in
theorem text_any (s : BS) (w : World) (hG : Glob w) :
    Calls Tryz.prog 49 #[vset s] w fun e w' => e = .returned (.string (bytesStr (textS s))) ∧ Below w.heap.size w w' := by
  obtain ⟨i0, hi, hz0, hz1, hz2⟩ := info_parts Tryz.info5
  have HG := Lib.hid hG
  clear hG
  have HC := fun w' => Lib.hid (count_any s w')
  have HT : Hid (textS s = if 128 < cnt s then [91, 94] ++ rangesT (rngs (bytesL (~~~s))) ++ [93] else [91] ++ rangesT (rngs (bytesL s)) ++ [93]) := rfl
  generalize cnt s = N at HC HT
  generalize textS s = TX at HT ⊢
  unfold vset
  go_enter Tryz.func49, Tryz.ntmps49
  go_wp2_with fail
  refine (HC _).out.mono ?_
  rintro e w1 ⟨rfl, hB1⟩
  have hA0 := (Blk.new w 33 (cset s)).alloc (.cells #[.int .u8 91] 5)
  have hA1 := Lib.hid (hA0.below hB1 (by simp; omega))
  have hO0 := World.ownsRow_lit (base := w.heap.size) (e := 5) (size := 1) (w.alloc (.cells (cset s) 33)) #[.int .u8 91] 1 (by simp) (by decide) rfl
  rw [World.size_alloc] at hO0
  have hO1 := Lib.hid (own_below hO0 hB1 (Nat.le_refl _))
  have HB1 : Hid (Below w.heap.size w w1) := Lib.hid ((((Below.refl _ w).alloc (Nat.le_refl _) (.cells (cset s) 33)).alloc (by simp) (.cells #[.int .u8 91] 5)).trans (hB1.mono (by simp; omega)))
  clear hA0 hO0 hB1 HC
  have hsz1 : w.heap.size ≤ w1.heap.size := HB1.out.size
  by_cases hN : 128 < N
  · have hN' : (128 : Int) < N := by omega
    have HTX : Hid (TX = [91, 94] ++ rangesT (rngs (bytesL (~~~s))) ++ [93]) := Lib.hid (by rw [HT.out, if_pos hN])
    clear HT
    have HNT := fun w' => Lib.hid (not_any s w')
    obtain ⟨ns, hns⟩ : ∃ ns, ns = ~~~s := ⟨_, rfl⟩
    rw [← hns] at HTX HNT
    clear hns
    go_wp2_with (first
      | (at_builtin; refine wpList_append_own _ rfl _ _ 58 rfl w.heap.size 5 i0 (.int .u8 0) 1 1 Tryz.underlying58 hi hz0 hz1 hz2 rfl (by decide) _ _ _ rfl (hO1.out.alloc _) ⟨w1.heap.size, 0, none⟩ 1 1 [.int .u8 94] rfl rfl (cell_one_new _ _ _) (by simp [Value.oneCell']) (by unfold maxLen; omega) (by omega) (by simp; omega) ?_; intro v2 w2 hown2 hgrow _; have hf2 := own_fin (hO1.out.alloc _) ((Lib.OthersKept.refl 5 none w1).alloc _) ((Below.refl w.heap.size w1).alloc hsz1 _) hsz1 hgrow; have hb2 := blk_others hA1.out (by decide) hf2.1; have c0 : w2.cell? ⟨w.heap.size, 0, none⟩ = some (.int .u64 (wdI s 0)) := hb2.cell 0; have c1 : w2.cell? ⟨w.heap.size, 1, none⟩ = some (.int .u64 (wdI s 1)) := hb2.cell 1; have c2 : w2.cell? ⟨w.heap.size, 2, none⟩ = some (.int .u64 (wdI s 2)) := hb2.cell 2; have c3 : w2.cell? ⟨w.heap.size, 3, none⟩ = some (.int .u64 (wdI s 3)) := hb2.cell 3)
      | fail)
    refine (HNT _).out.mono ?_
    rintro e w5 ⟨rfl, hB5⟩
    have hA5 := hb2.below hB5 hb2.lt
    have hO5 := own_below hown2 hB5 (Nat.le_refl _)
    have HB5 := Lib.hid ((HB1.out.trans hf2.2).trans (hB5.mono (Nat.le_trans hsz1 hf2.2.size)))
    have z0 : w5.cell? ⟨w.heap.size, 0, none⟩ = some (.int .u64 (wdI s 0)) := hA5.cell 0
    have z1 : w5.cell? ⟨w.heap.size, 1, none⟩ = some (.int .u64 (wdI s 1)) := hA5.cell 1
    have z2 : w5.cell? ⟨w.heap.size, 2, none⟩ = some (.int .u64 (wdI s 2)) := hA5.cell 2
    have z3 : w5.cell? ⟨w.heap.size, 3, none⟩ = some (.int .u64 (wdI s 3)) := hA5.cell 3
    have fz : ∀ i, w5.frozen? ⟨w.heap.size, i, none⟩ = false := hA5.frozen
    have hA6 := Blk.set4 hA5 (.int .u64 (wdI ns 0)) (.int .u64 (wdI ns 1)) (.int .u64 (wdI ns 2)) (.int .u64 (wdI ns 3))
    have hO6 : ((((w5.setCell ⟨w.heap.size, 0, none⟩ (.int .u64 (wdI ns 0))).setCell ⟨w.heap.size, 1, none⟩ (.int .u64 (wdI ns 1))).setCell ⟨w.heap.size, 2, none⟩ (.int .u64 (wdI ns 2))).setCell ⟨w.heap.size, 3, none⟩ (.int .u64 (wdI ns 3))).ownsRow w.heap.size 5 1 v2 ([91, 94] : List Nat).length (([91, 94] : List Nat).map byteV) := by
      have hne : v2.ownBlock ≠ some w.heap.size := by
        rcases hO5.2 with ⟨rfl, _⟩ | ⟨g, cap, cur, rfl, _, hg, _⟩
        · simp [Value.ownBlock]
        · intro e
          obtain rfl : g = w.heap.size := by simpa [Value.ownBlock] using e
          rw [show w5.heap[w.heap.size]? = _ from hA5] at hg
          cases hg
      exact ownsRow_setCell_other (ownsRow_setCell_other (ownsRow_setCell_other (ownsRow_setCell_other hO5 hne _) hne _) hne _) hne _
    have hB6 := below_set4 (B := w.heap.size) HB5.out (Nat.le_refl _) (.int .u64 (wdI ns 0)) (.int .u64 (wdI ns 1)) (.int .u64 (wdI ns 2)) (.int .u64 (wdI ns 3))
    have HA6 := Lib.hid hA6
    have HO6 := Lib.hid hO6
    have HB6 := Lib.hid hB6
    clear hA5 hO5 hB5 hb2 hf2 hown2 hgrow hA6 hO6 hB6 c0 c1 c2 c3 hA1 hO1 HNT HB5 HB1
    unfold vset
    obtain ⟨w6, hw6⟩ : ∃ w6, w6 = (((w5.setCell ⟨w.heap.size, 0, none⟩ (.int .u64 (wdI ns 0))).setCell ⟨w.heap.size, 1, none⟩ (.int .u64 (wdI ns 1))).setCell ⟨w.heap.size, 2, none⟩ (.int .u64 (wdI ns 2))).setCell ⟨w.heap.size, 3, none⟩ (.int .u64 (wdI ns 3)) := ⟨_, rfl⟩
    rw [← hw6] at HA6 HO6 HB6
    have HW6 := Lib.hid hw6
    clear hw6
    have c0 : w6.cell? ⟨w.heap.size, 0, none⟩ = some (.int .u64 (wdI ns 0)) := HA6.out.cell 0
    have c1 : w6.cell? ⟨w.heap.size, 1, none⟩ = some (.int .u64 (wdI ns 1)) := HA6.out.cell 1
    have c2 : w6.cell? ⟨w.heap.size, 2, none⟩ = some (.int .u64 (wdI ns 2)) := HA6.out.cell 2
    have c3 : w6.cell? ⟨w.heap.size, 3, none⟩ = some (.int .u64 (wdI ns 3)) := HA6.out.cell 3
    have HR := Lib.hid (ranges_any ns w6 (HG.out.below (Nat.le_refl _) HB6.out))
    have hrl := rngs_length (bytesL ns)
    have hbl := length_bytesL ns
    have hsm := rngs_small (bytesL ns) (fun x hx => ((mem_bytesL ns x).1 hx).1)
    obtain ⟨rs, hrs⟩ : ∃ rs, rs = rngs (bytesL ns) := ⟨_, rfl⟩
    rw [← hrs] at HR HTX hrl hsm
    have hrl2 : rs.length ≤ 256 := by omega
    clear hrs hrl hbl
    go_wp2_with fail
    rw [← HW6.out]
    refine HR.out.mono ?_
    rintro e w2 ⟨vr, rfl, hown2, _, hB2⟩
    obtain ⟨ar, cr, rfl, _⟩ := owned_rowR hown2
    have hOR := Lib.hid hown2
    have hOL := Lib.hid (own_below HO6.out hB2 (Nat.le_refl _))
    have HB2 := Lib.hid (HB6.out.trans (hB2.mono HB6.out.size))
    clear hown2 hB2 c0 c1 c2 c3 HR HA6 HO6
    go_wp2
    go_loopw [3, 18] (fun q p wr => ∃ (k : Nat), p = .int .i64 k ∧ k ≤ rs.length ∧ Hid (wr.ownsRow w.heap.size 5 1 q ([91, 94] ++ rangesT (rs.take k)).length (([91, 94] ++ rangesT (rs.take k)).map byteV)) ∧ Hid (wr.ownsRow w6.heap.size 103 2 (.slice ar rs.length cr) rs.length (cellsR rs)) ∧ Hid (Below w.heap.size w wr))
      (fun _ p _ => rs.length - (intOf p).toNat)
    case atStart => exact ⟨0, rfl, Nat.zero_le _, by simpa [rangesT, byteV] using hOL, hOR, HB2⟩
    case round =>
      clear hOL hOR HB2
      obtain ⟨k, rfl, hk, hO, hR, hB⟩ := hrel
      have hll : ([91, 94] ++ rangesT (rs.take k)).length ≤ 5000 := by
        have h1 := rangesT_len (rs.take k)
        rw [List.length_take] at h1
        simp only [List.length_append, List.length_cons, List.length_nil]
        omega
      by_cases hlt : k < rs.length
      · have HX : Hid (rs[k]? = some rs[k]) := Lib.hid (List.getElem?_eq_getElem hlt)
        obtain ⟨x1, x2⟩ := hsm rs[k] (List.getElem_mem hlt)
        obtain ⟨x, hx⟩ : ∃ x, rs[k] = x := ⟨_, rfl⟩
        rw [hx] at HX x1 x2
        have HL : Hid (([91, 94] ++ rangesT (rs.take k)) ++ rangeT x = [91, 94] ++ rangesT (rs.take (k + 1))) := by
          refine Lib.hid ?_
          rw [List.take_add_one, HX.out]
          show _ = [91, 94] ++ rangesT (rs.take k ++ [x])
          rw [rangesT_snoc, List.append_assoc]
        clear hx
        obtain ⟨f, t⟩ := x
        dsimp only at x1 x2
        obtain ⟨a', cap', hsl, hrow⟩ := owned_rowR hR.out
        cases hsl
        obtain ⟨b, off, rfl, r1, r2⟩ := hrow k _ HX.out
        have HAR := fun (wq : World) (ho : wq.ownsRow w.heap.size 5 1 u3 ([91, 94] ++ rangesT (rs.take k)).length (([91, 94] ++ rangesT (rs.take k)).map byteV)) (hn : w.heap.size ≤ wq.heap.size) => Lib.hid (appendRange_any u3 ([91, 94] ++ rangesT (rs.take k)) (f, t) x1 x2 w.heap.size wq ho hn (by omega))
        have hszr : w.heap.size ≤ wr.heap.size := hB.out.size
        go_wp2_with fail
        refine (HAR _ (hO.out.alloc _) (by simp; omega)).out.mono ?_
        rintro e w3 ⟨v3, rfl, hown3, hk3, hB3⟩
        have hR3 := Lib.hid (own_others (hR.out.alloc (.cells #[.int .u8 f, .int .u8 t] 103)) (by decide) hk3)
        have HB3 := Lib.hid ((hB.out.alloc hB.out.size (.cells #[.int .u8 f, .int .u8 t] 103)).trans hB3)
        rw [HL.out] at hown3
        have hO3 := Lib.hid hown3
        clear hown3 hk3 hB3 HAR hO hR hB r1 r2
        go_wp2
        go_roundw
        case rel => exact ⟨k + 1, by go_num, by omega, hO3, hR3, HB3⟩
        case measure => simp [intOf]; omega
      · obtain rfl : k = rs.length := by omega
        rw [List.take_length] at hO hll
        obtain ⟨L, hL⟩ : ∃ L, L = [91, 94] ++ rangesT rs := ⟨_, rfl⟩
        rw [← hL] at hO hll HTX
        clear hL hR
        have hszr : w.heap.size ≤ wr.heap.size := hB.out.size
        have hconv : ∀ (g c : Nat) (w' : World), w'.ownsRow w.heap.size 5 1 (.slice (some ⟨g, 0, none⟩) (L.length + 1) c) (L.length + 1) (L.map byteV ++ [.int .u8 93]) → (convert 58 9 (.slice (some ⟨g, 0, none⟩) (L.length + 1) c)).run Tryz.prog w' = .ok (.string (bytesStr (L ++ [93]))) w' := by
          intro g c w' ho
          have e2 : L.map byteV ++ [.int .u8 93] = (L ++ [93]).map byteV := by simp [byteV]
          rw [e2] at ho
          exact conv_own g c w' (L ++ [93]) (L.length + 1) (by simp) ho
        go_wp2_with (at_builtin; refine wpList_append_own _ rfl _ _ 58 rfl w.heap.size 5 i0 (.int .u8 0) 1 1 Tryz.underlying58 hi hz0 hz1 hz2 rfl (by decide) _ _ _ rfl (hO.out.alloc _) ⟨wr.heap.size, 0, none⟩ 1 1 [.int .u8 93] rfl rfl (cell_one_new _ _ _) (by simp [Value.oneCell']) (by unfold maxLen; omega) (by omega) (by simp; omega) ?_; intro v4 w4 hown4 hgrow _; obtain ⟨g4, c4, rfl⟩ := ownsRow_succ hown4; have hcv := hconv g4 c4 w4 hown4)
        have hf4 := own_fin (hO.out.alloc _) ((Lib.OthersKept.refl 5 none wr).alloc _) ((Below.refl w.heap.size wr).alloc hszr _) hszr hgrow
        go_ret
        exact ⟨by rw [HTX.out]; rfl, hB.out.trans hf4.2⟩
  · have hN' : ¬ (128 : Int) < N := by omega
    have HTX : Hid (TX = [91] ++ rangesT (rngs (bytesL s)) ++ [93]) := Lib.hid (by rw [HT.out, if_neg hN])
    clear HT
    have c0 : w1.cell? ⟨w.heap.size, 0, none⟩ = some (.int .u64 (wdI s 0)) := hA1.out.cell 0
    have c1 : w1.cell? ⟨w.heap.size, 1, none⟩ = some (.int .u64 (wdI s 1)) := hA1.out.cell 1
    have c2 : w1.cell? ⟨w.heap.size, 2, none⟩ = some (.int .u64 (wdI s 2)) := hA1.out.cell 2
    have c3 : w1.cell? ⟨w.heap.size, 3, none⟩ = some (.int .u64 (wdI s 3)) := hA1.out.cell 3
    have HR := Lib.hid (ranges_any s w1 (HG.out.below (Nat.le_refl _) HB1.out))
    have hrl := rngs_length (bytesL s)
    have hbl := length_bytesL s
    have hsm := rngs_small (bytesL s) (fun x hx => ((mem_bytesL s x).1 hx).1)
    obtain ⟨rs, hrs⟩ : ∃ rs, rs = rngs (bytesL s) := ⟨_, rfl⟩
    rw [← hrs] at HR HTX hrl hsm
    have hrl2 : rs.length ≤ 256 := by omega
    clear hrs hrl hbl
    go_wp2_with fail
    refine HR.out.mono ?_
    rintro e w2 ⟨vr, rfl, hown2, _, hB2⟩
    obtain ⟨ar, cr, rfl, _⟩ := owned_rowR hown2
    have hOR := Lib.hid hown2
    have hOL := Lib.hid (own_below hO1.out hB2 (Nat.le_refl _))
    have HB2 := Lib.hid (HB1.out.trans (hB2.mono HB1.out.size))
    clear hown2 hB2 c0 c1 c2 c3 HR hA1 hO1
    go_wp2
    go_loopw [3, 18] (fun q p wr => ∃ (k : Nat), p = .int .i64 k ∧ k ≤ rs.length ∧ Hid (wr.ownsRow w.heap.size 5 1 q ([91] ++ rangesT (rs.take k)).length (([91] ++ rangesT (rs.take k)).map byteV)) ∧ Hid (wr.ownsRow w1.heap.size 103 2 (.slice ar rs.length cr) rs.length (cellsR rs)) ∧ Hid (Below w.heap.size w wr))
      (fun _ p _ => rs.length - (intOf p).toNat)
    case atStart => exact ⟨0, rfl, Nat.zero_le _, by simpa [rangesT, byteV] using hOL, hOR, HB2⟩
    case round =>
      clear hOL hOR HB2
      obtain ⟨k, rfl, hk, hO, hR, hB⟩ := hrel
      have hll : ([91] ++ rangesT (rs.take k)).length ≤ 5000 := by
        have h1 := rangesT_len (rs.take k)
        rw [List.length_take] at h1
        simp only [List.length_append, List.length_cons, List.length_nil]
        omega
      by_cases hlt : k < rs.length
      · have HX : Hid (rs[k]? = some rs[k]) := Lib.hid (List.getElem?_eq_getElem hlt)
        obtain ⟨x1, x2⟩ := hsm rs[k] (List.getElem_mem hlt)
        obtain ⟨x, hx⟩ : ∃ x, rs[k] = x := ⟨_, rfl⟩
        rw [hx] at HX x1 x2
        have HL : Hid (([91] ++ rangesT (rs.take k)) ++ rangeT x = [91] ++ rangesT (rs.take (k + 1))) := by
          refine Lib.hid ?_
          rw [List.take_add_one, HX.out]
          show _ = [91] ++ rangesT (rs.take k ++ [x])
          rw [rangesT_snoc, List.append_assoc]
        clear hx
        obtain ⟨f, t⟩ := x
        dsimp only at x1 x2
        obtain ⟨a', cap', hsl, hrow⟩ := owned_rowR hR.out
        cases hsl
        obtain ⟨b, off, rfl, r1, r2⟩ := hrow k _ HX.out
        have HAR := fun (wq : World) (ho : wq.ownsRow w.heap.size 5 1 u3 ([91] ++ rangesT (rs.take k)).length (([91] ++ rangesT (rs.take k)).map byteV)) (hn : w.heap.size ≤ wq.heap.size) => Lib.hid (appendRange_any u3 ([91] ++ rangesT (rs.take k)) (f, t) x1 x2 w.heap.size wq ho hn (by omega))
        have hszr : w.heap.size ≤ wr.heap.size := hB.out.size
        go_wp2_with fail
        refine (HAR _ (hO.out.alloc _) (by simp; omega)).out.mono ?_
        rintro e w3 ⟨v3, rfl, hown3, hk3, hB3⟩
        have hR3 := Lib.hid (own_others (hR.out.alloc (.cells #[.int .u8 f, .int .u8 t] 103)) (by decide) hk3)
        have HB3 := Lib.hid ((hB.out.alloc hB.out.size (.cells #[.int .u8 f, .int .u8 t] 103)).trans hB3)
        rw [HL.out] at hown3
        have hO3 := Lib.hid hown3
        clear hown3 hk3 hB3 HAR hO hR hB r1 r2
        go_wp2
        go_roundw
        case rel => exact ⟨k + 1, by go_num, by omega, hO3, hR3, HB3⟩
        case measure => simp [intOf]; omega
      · obtain rfl : k = rs.length := by omega
        rw [List.take_length] at hO hll
        obtain ⟨L, hL⟩ : ∃ L, L = [91] ++ rangesT rs := ⟨_, rfl⟩
        rw [← hL] at hO hll HTX
        clear hL hR
        have hszr : w.heap.size ≤ wr.heap.size := hB.out.size
        have hconv : ∀ (g c : Nat) (w' : World), w'.ownsRow w.heap.size 5 1 (.slice (some ⟨g, 0, none⟩) (L.length + 1) c) (L.length + 1) (L.map byteV ++ [.int .u8 93]) → (convert 58 9 (.slice (some ⟨g, 0, none⟩) (L.length + 1) c)).run Tryz.prog w' = .ok (.string (bytesStr (L ++ [93]))) w' := by
          intro g c w' ho
          have e2 : L.map byteV ++ [.int .u8 93] = (L ++ [93]).map byteV := by simp [byteV]
          rw [e2] at ho
          exact conv_own g c w' (L ++ [93]) (L.length + 1) (by simp) ho
        go_wp2_with (at_builtin; refine wpList_append_own _ rfl _ _ 58 rfl w.heap.size 5 i0 (.int .u8 0) 1 1 Tryz.underlying58 hi hz0 hz1 hz2 rfl (by decide) _ _ _ rfl (hO.out.alloc _) ⟨wr.heap.size, 0, none⟩ 1 1 [.int .u8 93] rfl rfl (cell_one_new _ _ _) (by simp [Value.oneCell']) (by unfold maxLen; omega) (by omega) (by simp; omega) ?_; intro v4 w4 hown4 hgrow _; obtain ⟨g4, c4, rfl⟩ := ownsRow_succ hown4; have hcv := hconv g4 c4 w4 hown4)
        have hf4 := own_fin (hO.out.alloc _) ((Lib.OthersKept.refl 5 none wr).alloc _) ((Below.refl w.heap.size wr).alloc hszr _) hszr hgrow
        go_ret
        exact ⟨by rw [HTX.out]; rfl, hB.out.trans hf4.2⟩
end Go.Proofs.YtdodkbpagbblmaaGreatDoor
end
section
namespace Go.Proofs.YtdodkbpagbblmaaGreatDoor
open Go Go.RowKit

/-- What a byte at a text's beginning is, and how long it stands there. -/
def byteB : List UInt8 → Nat × Nat
  | [] => (0, 0)
  | c :: r => if c.toNat = 92 then escB (c :: r) else if 32 ≤ c.toNat ∧ c.toNat ≤ 126 ∧ signB c.toNat = false then (c.toNat, 1) else (0, 0)

theorem list_empty (s : ByteArray) : s.size = 0 ↔ s.data.toList = [] := by
  rw [Lib.size_eq, List.length_eq_zero_iff]

theorem isEmpty_of (s : ByteArray) (h : s.size = 0) : s.toList.isEmpty = true := by
  rw [← decide_eq_emptyBytes]
  refine decide_eq_true ?_
  cases s with
  | mk a => exact congrArg ByteArray.mk (Array.eq_empty_of_size_eq_zero h)
theorem isEmpty_not (s : ByteArray) (h : s.size ≠ 0) : s.toList.isEmpty = false := by
  rw [← decide_eq_emptyBytes]
  exact decide_eq_false (fun e => h (by rw [e]; rfl))

set_option maxRecDepth 100000 in
set_option maxHeartbeats 4000000 in
theorem readByte_any (s : ByteArray) (hs : s.size ≤ 140737488351232) (w : World) (hG : Glob w) :
    Calls Tryz.prog 102 #[.string s] w fun e w' => e = .returned (.tuple #[.int .u8 (byteB s.data.toList).1, .int .i64 (byteB s.data.toList).2]) ∧ Below w.heap.size w w' := by
  have HR := Lib.hid (readEscape_any s hs w hG)
  clear hG
  by_cases h0 : s.size = 0
  · have hE : byteB s.data.toList = (0, 0) := by rw [(list_empty s).1 h0]; rfl
    have hem := isEmpty_of s h0
    rw [hE]
    go_enter Tryz.func102, Tryz.ntmps102
    go_wp2
    go_ret2
    exact ⟨rfl, Below.refl _ _⟩
  · have hem := isEmpty_not s h0
    obtain ⟨b, hb⟩ : ∃ b, b = (s[0]'(by omega)).toNat := ⟨_, rfl⟩
    have hb256 : b < 256 := by rw [hb]; exact (s[0]'(by omega)).toNat_lt
    have hi : ∀ h, (s[0]'h).toNat = b := fun h => hb.symm
    have HE : Hid (byteB s.data.toList = if b = 92 then escB s.data.toList else if 32 ≤ b ∧ b ≤ 126 ∧ signB b = false then (b, 1) else (0, 0)) := by
      refine Lib.hid ?_
      have hl : ∃ x r, s.data.toList = x :: r := by
        have : s.data.toList ≠ [] := fun e => h0 ((list_empty s).2 e)
        match s.data.toList, this with
        | x :: r, _ => exact ⟨x, r, rfl⟩
      obtain ⟨x, r, hl⟩ := hl
      have hy : b = x.toNat := by
        rw [hb]
        show (s.data[0]'_).toNat = _
        rw [← Array.getElem_toList]
        simp [hl]
      rw [hl, hy]
      rfl
    clear hb
    have HS := fun w' => Lib.hid (isSign_any b hb256 w')
    have hpos : (0 : Int) < s.size := by omega
    by_cases c1 : b = 92
    · have hE : byteB s.data.toList = escB s.data.toList := by rw [HE.out, if_pos c1]
      rw [hE]
      clear HE hE
      obtain ⟨q, hq⟩ : ∃ q, q = escB s.data.toList := ⟨_, rfl⟩
      rw [← hq] at HR ⊢
      clear hq
      obtain ⟨q1, q2⟩ := q
      subst c1
      go_enter Tryz.func102, Tryz.ntmps102
      go_wp2_with (go_at_call 117; refine HR.out.mono ?_; rintro e w1 ⟨rfl, hB⟩)
      go_ret2
      exact ⟨rfl, by assumption⟩
    · have d1 : ¬ (b : Int) = 92 := by omega
      have hE : byteB s.data.toList = if 32 ≤ b ∧ b ≤ 126 ∧ signB b = false then (b, 1) else (0, 0) := by rw [HE.out, if_neg c1]
      rw [hE]
      clear HE hE HR
      by_cases c2 : 32 ≤ b
      · by_cases c3 : b ≤ 126
        · cases hsg : signB b with
          | true =>
            rw [if_neg (by simp)]
            go_enter Tryz.func102, Tryz.ntmps102
            go_wp2_with (go_at_call 107; refine (HS _).out.mono ?_; rintro e w' ⟨rfl, rfl⟩)
            go_ret2
            exact ⟨rfl, Below.refl _ _⟩
          | false =>
            rw [if_pos ⟨c2, c3, rfl⟩]
            go_enter Tryz.func102, Tryz.ntmps102
            go_wp2_with (go_at_call 107; refine (HS _).out.mono ?_; rintro e w' ⟨rfl, rfl⟩)
            go_ret2
            exact ⟨rfl, Below.refl _ _⟩
        · rw [if_neg (fun h => c3 h.2.1)]
          go_enter Tryz.func102, Tryz.ntmps102
          go_wp2
          go_ret2
          exact ⟨rfl, Below.refl _ _⟩
      · rw [if_neg (fun h => c2 h.1)]
        go_enter Tryz.func102, Tryz.ntmps102
        go_wp2
        go_ret2
        exact ⟨rfl, Below.refl _ _⟩

theorem escB_lt (l : List UInt8) : (escB l).1 < 256 ∧ (escB l).2 ≤ l.length := by
  unfold escB
  split
  · rename_i b r
    have := b.toNat_lt
    split
    · exact ⟨by decide, by simp⟩
    · split
      · exact ⟨by decide, by simp⟩
      · split
        · exact ⟨by decide, by simp⟩
        · split
          · exact ⟨this, by simp⟩
          · split
            · rename_i h
              split
              · exact ⟨Nat.mod_lt _ (by omega), by simp; omega⟩
              · exact ⟨by decide, by simp⟩
            · exact ⟨by decide, by simp⟩
  · exact ⟨by decide, by simp⟩

theorem byteB_lt (l : List UInt8) : (byteB l).1 < 256 ∧ (byteB l).2 ≤ l.length := by
  unfold byteB
  split
  · exact ⟨by decide, by simp⟩
  · rename_i c r
    have := c.toNat_lt
    split
    · exact escB_lt _
    · split
      · exact ⟨this, by simp⟩
      · exact ⟨by decide, by simp⟩
end Go.Proofs.YtdodkbpagbblmaaGreatDoor
end
section
namespace Go.Proofs.YtdodkbpagbblmaaGreatDoor
open Go Go.RowKit

/-- The item at a text's beginning: its range, and how long it is. -/
def itemB (l : List UInt8) : (Nat × Nat) × Nat :=
  if (byteB l).2 = 0 ∨ Lib.hasPrefix (l.drop (byteB l).2) [45] = false then (((byteB l).1, (byteB l).1), (byteB l).2)
  else if (byteB (l.drop ((byteB l).2 + 1))).2 = 0 ∨ (byteB (l.drop ((byteB l).2 + 1))).1 < (byteB l).1 then ((0, 0), 0)
  else (((byteB l).1, (byteB (l.drop ((byteB l).2 + 1))).1), (byteB l).2 + 1 + (byteB (l.drop ((byteB l).2 + 1))).2)

theorem extract_drop (s : ByteArray) (c : Nat) : (s.extract c s.size).data.toList = s.data.toList.drop c := by
  rw [ByteArray.data_extract, Array.toList_extract, List.extract_eq_take_drop]
  rw [List.take_of_length_le]
  simp

theorem hasPrefix_room (l : List UInt8) (n : Nat) (h : Lib.hasPrefix (l.drop n) [45] = true) : n + 1 ≤ l.length := by
  by_cases hn : n < l.length
  · omega
  · rw [List.drop_eq_nil_of_le (by omega)] at h
    cases h

theorem Blk.set2 {W : World} {B t : Nat} {a b : Value} (h : Blk W B t #[a, b]) (a' b' : Value) :
    Blk ((W.setCell ⟨B, 0, none⟩ a').setCell ⟨B, 1, none⟩ b') B t #[a', b'] := by
  simpa using (h.set 0 a').set 1 b'
theorem below_set2 {n B : Nat} {w W : World} (h : Below n w W) (hn : n ≤ B) (a' b' : Value) :
    Below n w ((W.setCell ⟨B, 0, none⟩ a').setCell ⟨B, 1, none⟩ b') :=
  (h.setCell (p := ⟨B, 0, none⟩) hn _).setCell (p := ⟨B, 1, none⟩) hn _

set_option maxRecDepth 100000 in
set_option maxHeartbeats 4000000 in
theorem readItem_any (s : ByteArray) (hs : s.size ≤ 140737488351232) (w : World) (hG : Glob w) :
    Calls Tryz.prog 83 #[.string s] w fun e w' => e = .returned (.tuple #[.agg #[.int .u8 (itemB s.data.toList).1.1, .int .u8 (itemB s.data.toList).1.2], .int .i64 (itemB s.data.toList).2]) ∧ Below w.heap.size w w' := by
  have HG := Lib.hid hG
  clear hG
  have hbl := byteB_lt s.data.toList
  have hsz : s.data.toList.length = s.size := (Lib.size_eq s).symm
  obtain ⟨q, hq⟩ : ∃ q, q = byteB s.data.toList := ⟨_, rfl⟩
  have HR := Lib.hid (readByte_any s hs (w.alloc (.cells #[.int .u8 0, .int .u8 0] 103)) (HG.out.below (Nat.le_refl _) ((Below.refl _ w).alloc (Nat.le_refl _) _)))
  have HI : Hid (itemB s.data.toList = if q.2 = 0 ∨ Lib.hasPrefix (s.data.toList.drop q.2) [45] = false then ((q.1, q.1), q.2)
      else if (byteB (s.data.toList.drop (q.2 + 1))).2 = 0 ∨ (byteB (s.data.toList.drop (q.2 + 1))).1 < q.1 then ((0, 0), 0)
      else ((q.1, (byteB (s.data.toList.drop (q.2 + 1))).1), q.2 + 1 + (byteB (s.data.toList.drop (q.2 + 1))).2)) := by
    rw [hq]; rfl
  rw [← hq] at HR hbl
  obtain ⟨b, n⟩ := q
  dsimp only at *
  have hn : n ≤ s.size := by omega
  have hb256 := hbl.1
  clear hq hbl
  obtain ⟨hp, hhp⟩ : ∃ hp, hp = Lib.hasPrefix (s.data.toList.drop n) [45] := ⟨_, rfl⟩
  rw [← hhp] at HI
  have HPx : ∀ w', Hid (Calls Tryz.prog 56 #[.string (s.extract n s.size), .string ⟨#[45]⟩] w' fun e w'' => e = .returned (.bool hp) ∧ w' = w'') := by
    intro w'
    refine Lib.hid ((Tryz.strings_HasPrefix _ _ _).mono ?_)
    rintro e w'' ⟨rfl, rfl⟩
    rw [extract_drop, hhp]
    exact ⟨rfl, rfl⟩
  have HH := Lib.hid hhp
  have HSZ := Lib.hid hsz
  clear hhp hsz
  by_cases c1 : n = 0
  · have hE : itemB s.data.toList = ((b, b), n) := by rw [HI.out, if_pos (.inl c1)]
    rw [hE]
    subst c1
    clear HI hE HPx HH
    go_enter Tryz.func83, Tryz.ntmps83
    go_wp2_with fail
    refine HR.out.mono ?_
    rintro e w1 ⟨rfl, hB⟩
    have hA1 := Lib.hid ((Blk.new w 103 #[.int .u8 0, .int .u8 0]).below hB (by simp))
    have HB : Hid (Below w.heap.size w w1) := Lib.hid (((Below.refl _ w).alloc (Nat.le_refl _) _).trans (hB.mono (by simp)))
    have y0 : w1.cell? ⟨w.heap.size, 0, none⟩ = some (.int .u8 0) := hA1.out.cell 0
    have y1 : w1.cell? ⟨w.heap.size, 1, none⟩ = some (.int .u8 0) := hA1.out.cell 1
    have fy : ∀ i, w1.frozen? ⟨w.heap.size, i, none⟩ = false := hA1.out.frozen
    clear hB HR
    go_wp2
    have hb2 := Blk.set2 hA1.out (.int .u8 ((b : Nat) : Int)) (.int .u8 ((b : Nat) : Int))
    have d0 := hb2.cell 0
    have d1 := hb2.cell 1
    refine bodyPost_ret (v := .tuple #[.agg #[.int .u8 ((b : Nat) : Int), .int .u8 ((b : Nat) : Int)], .int .i64 0]) (by simp [results, Tryz.results83, go_sem, d0, d1]) rfl ⟨by first | rfl | (simp; done) | (rw [HEE.out]; done) | (rw [HEE.out]; rfl) | (rw [HEE.out]; simp), ?_⟩
    exact below_set2 HB.out (Nat.le_refl _) _ _
  · cases hp with
    | false =>
      have hE : itemB s.data.toList = ((b, b), n) := by rw [HI.out, if_pos (.inr rfl)]
      rw [hE]
      clear HI hE HH
      go_enter Tryz.func83, Tryz.ntmps83
      go_wp2_with fail
      refine HR.out.mono ?_
      rintro e w1 ⟨rfl, hB⟩
      have hA1 := Lib.hid ((Blk.new w 103 #[.int .u8 0, .int .u8 0]).below hB (by simp))
      have HB : Hid (Below w.heap.size w w1) := Lib.hid (((Below.refl _ w).alloc (Nat.le_refl _) _).trans (hB.mono (by simp)))
      have y0 : w1.cell? ⟨w.heap.size, 0, none⟩ = some (.int .u8 0) := hA1.out.cell 0
      have y1 : w1.cell? ⟨w.heap.size, 1, none⟩ = some (.int .u8 0) := hA1.out.cell 1
      have fy : ∀ i, w1.frozen? ⟨w.heap.size, i, none⟩ = false := hA1.out.frozen
      clear hB HR
      go_wp2_with (go_at_call 56; refine (HPx _).out.mono ?_; rintro e w' ⟨rfl, rfl⟩)
      have hb2 := Blk.set2 hA1.out (.int .u8 ((b : Nat) : Int)) (.int .u8 ((b : Nat) : Int))
      have d0 := hb2.cell 0
      have d1 := hb2.cell 1
      refine bodyPost_ret (v := .tuple #[.agg #[.int .u8 ((b : Nat) : Int), .int .u8 ((b : Nat) : Int)], .int .i64 ((n : Nat) : Int)]) (by simp [results, Tryz.results83, go_sem, d0, d1]) rfl ⟨by first | rfl | (simp; done) | (rw [HEE.out]; done) | (rw [HEE.out]; rfl) | (rw [HEE.out]; simp), ?_⟩
      exact below_set2 HB.out (Nat.le_refl _) _ _
    | true =>
      have hroom : n + 1 ≤ s.size := by have := hasPrefix_room _ _ HH.out.symm; rw [HSZ.out] at this; exact this
      obtain ⟨q, hq⟩ : ∃ q, q = byteB (s.data.toList.drop (n + 1)) := ⟨_, rfl⟩
      rw [← hq] at HI
      have hbl2 := byteB_lt (s.data.toList.drop (n + 1))
      rw [← hq] at hbl2
      have HR2 : ∀ w', Glob w' → Hid (Calls Tryz.prog 102 #[.string (s.extract (n + 1) s.size)] w' fun e w'' => e = .returned (.tuple #[.int .u8 q.1, .int .i64 q.2]) ∧ Below w'.heap.size w' w'') := by
        intro w' hG'
        have h := readByte_any (s.extract (n + 1) s.size) (by rw [ByteArray.size_extract]; omega) w' hG'
        rw [extract_drop, ← hq] at h
        exact h
      obtain ⟨t, m⟩ := q
      dsimp only at *
      have hm : m ≤ 140737488351232 := by
        have h1 := hbl2.2
        rw [List.length_drop, HSZ.out] at h1
        omega
      have ht := hbl2.1
      clear hq hbl2 HH
      have HI2 : Hid (itemB s.data.toList = if m = 0 ∨ t < b then ((0, 0), 0) else ((b, t), n + 1 + m)) := by
        rw [HI.out, if_neg (by simp [c1])]; rfl
      clear HI
      have c1' : ¬ (n : Int) = 0 := by omega
      go_enter Tryz.func83, Tryz.ntmps83
      go_wp2_with fail
      refine HR.out.mono ?_
      rintro e w1 ⟨rfl, hB⟩
      have hA1 := Lib.hid ((Blk.new w 103 #[.int .u8 0, .int .u8 0]).below hB (by simp))
      have HB : Hid (Below w.heap.size w w1) := Lib.hid (((Below.refl _ w).alloc (Nat.le_refl _) _).trans (hB.mono (by simp)))
      have y0 : w1.cell? ⟨w.heap.size, 0, none⟩ = some (.int .u8 0) := hA1.out.cell 0
      have y1 : w1.cell? ⟨w.heap.size, 1, none⟩ = some (.int .u8 0) := hA1.out.cell 1
      have fy : ∀ i, w1.frozen? ⟨w.heap.size, i, none⟩ = false := hA1.out.frozen
      clear hB HR
      have HR3 := HR2 w1 (HG.out.below (Nat.le_refl _) HB.out)
      clear HR2
      go_wp2_with (first | (go_at_call 56; refine (HPx _).out.mono ?_; rintro e w' ⟨rfl, rfl⟩) | fail)
      refine HR3.out.mono ?_
      rintro e w2 ⟨rfl, hB2⟩
      have hA2 := Lib.hid (hA1.out.below hB2 hA1.out.lt)
      have HB2 := Lib.hid (HB.out.trans (hB2.mono HB.out.size))
      have z0 : w2.cell? ⟨w.heap.size, 0, none⟩ = some (.int .u8 0) := hA2.out.cell 0
      have z1 : w2.cell? ⟨w.heap.size, 1, none⟩ = some (.int .u8 0) := hA2.out.cell 1
      have fz : ∀ i, w2.frozen? ⟨w.heap.size, i, none⟩ = false := hA2.out.frozen
      clear hB2 HR3 y0 y1 fy
      by_cases c3 : m = 0
      · have hE : itemB s.data.toList = ((0, 0), 0) := by rw [HI2.out, if_pos (.inl c3)]
        subst c3
        clear HI2
        have HEE := Lib.hid hE
        clear hE
        go_wp2
        have hb2 := Blk.set2 hA2.out (.int .u8 0) (.int .u8 0)
        have d0 := hb2.cell 0
        have d1 := hb2.cell 1
        refine bodyPost_ret (v := .tuple #[.agg #[.int .u8 0, .int .u8 0], .int .i64 0]) (by simp [results, Tryz.results83, go_sem, d0, d1]) rfl ⟨by first | rfl | (simp; done) | (rw [HEE.out]; done) | (rw [HEE.out]; rfl) | (rw [HEE.out]; simp), ?_⟩
        exact below_set2 HB2.out (Nat.le_refl _) _ _
      · have c3' : ¬ (m : Int) = 0 := by omega
        by_cases c4 : t < b
        · have hE : itemB s.data.toList = ((0, 0), 0) := by rw [HI2.out, if_pos (.inr c4)]
          clear HI2
          have HEE := Lib.hid hE
          clear hE
          go_wp2
          have hb2 := Blk.set2 hA2.out (.int .u8 0) (.int .u8 0)
          have d0 := hb2.cell 0
          have d1 := hb2.cell 1
          refine bodyPost_ret (v := .tuple #[.agg #[.int .u8 0, .int .u8 0], .int .i64 0]) (by simp [results, Tryz.results83, go_sem, d0, d1]) rfl ⟨by first | rfl | (simp; done) | (rw [HEE.out]; done) | (rw [HEE.out]; rfl) | (rw [HEE.out]; simp), ?_⟩
          exact below_set2 HB2.out (Nat.le_refl _) _ _
        · have hE : itemB s.data.toList = ((b, t), n + 1 + m) := by rw [HI2.out, if_neg (by simp [c3, c4])]
          clear HI2
          have HEE := Lib.hid hE
          clear hE
          go_wp2
          have hb2 := Blk.set2 hA2.out (.int .u8 ((b : Nat) : Int)) (.int .u8 ((t : Nat) : Int))
          have d0 := hb2.cell 0
          have d1 := hb2.cell 1
          refine bodyPost_ret (v := .tuple #[.agg #[.int .u8 ((b : Nat) : Int), .int .u8 ((t : Nat) : Int)], .int .i64 ((n + 1 + m : Nat) : Int)]) (by simp [results, Tryz.results83, go_sem, d0, d1]) rfl ⟨by first | rfl | (simp; done) | (rw [HEE.out]; done) | (rw [HEE.out]; rfl) | (rw [HEE.out]; simp), ?_⟩
          exact below_set2 HB2.out (Nat.le_refl _) _ _
end Go.Proofs.YtdodkbpagbblmaaGreatDoor
end
section
namespace Go.Proofs.YtdodkbpagbblmaaGreatDoor
open Go Go.RowKit

/-- The items of a set's text, up to its end. -/
def readItems : Nat → BS → List UInt8 → Option BS
  | 0, _, _ => none
  | f + 1, s, l => if l = [93] then some s else if (itemB l).2 = 0 then none else readItems f (addR s (itemB l).1) (l.drop (itemB l).2)

/-- The set that a text is. -/
def readS (l : List UInt8) : Option BS :=
  if Lib.hasPrefix l [91] then
    if Lib.hasPrefix (Lib.trimPrefix l [91]) [94] then
      (readItems ((Lib.trimPrefix (Lib.trimPrefix l [91]) [94]).length + 1) 0#256 (Lib.trimPrefix (Lib.trimPrefix l [91]) [94])).map (fun s => ~~~s)
    else readItems ((Lib.trimPrefix l [91]).length + 1) 0#256 (Lib.trimPrefix l [91])
  else none

def readV : Option BS → Value
  | some s => .tuple #[vset s, .int .i64 0]
  | none => .tuple #[.agg #[.int .u64 0, .int .u64 0, .int .u64 0, .int .u64 0], .int .i64 120]

def strLen : Value → Nat
  | .string s => s.size
  | _ => 0

theorem trim_len (l p : List UInt8) : (Lib.trimPrefix l p).length ≤ l.length := by
  unfold Lib.trimPrefix; split
  · simp
  · exact Nat.le_refl _

theorem itemB_lt (l : List UInt8) : (itemB l).1.1 < 256 ∧ (itemB l).1.2 < 256 ∧ (itemB l).2 ≤ l.length := by
  have h1 := byteB_lt l
  have h2 := byteB_lt (l.drop ((byteB l).2 + 1))
  unfold itemB
  split
  · exact ⟨h1.1, h1.1, h1.2⟩
  · rename_i hc
    have hp : Lib.hasPrefix (l.drop (byteB l).2) [45] = true := by
      cases h : Lib.hasPrefix (l.drop (byteB l).2) [45] with
      | true => rfl
      | false => exact absurd (.inr h) hc
    have hr := hasPrefix_room _ _ hp
    split
    · exact ⟨by decide, by decide, Nat.zero_le _⟩
    · refine ⟨h1.1, h2.1, ?_⟩
      have := h2.2
      rw [List.length_drop] at this
      dsimp only
      omega

set_option maxRecDepth 100000 in
set_option maxHeartbeats 4000000 in
theorem read_any (s : ByteArray) (hs : s.size ≤ 140737488351232) (w : World) (hG : Glob w) :
    Calls Tryz.prog 61 #[.string s] w fun e w' => e = .returned (readV (readS s.data.toList)) ∧ Below w.heap.size w w' := by
  have HG := Lib.hid hG
  clear hG
  have hsz : s.data.toList.length = s.size := (Lib.size_eq s).symm
  have HC1 : ∀ w', Hid (Calls Tryz.prog 82 #[.string s, .string ⟨#[91]⟩] w' fun e w'' => e = .returned (.tuple #[.string ⟨(Lib.trimPrefix s.data.toList [91]).toArray⟩, .bool (Lib.hasPrefix s.data.toList [91])]) ∧ w' = w'') := fun w' => (Tryz.strings_CutPrefix s ⟨#[91]⟩ w').mono fun _ _ ⟨a, b⟩ => ⟨a, b.symm⟩
  have hl1 := trim_len s.data.toList [91]
  obtain ⟨R, hR⟩ : ∃ R, R = readV (readS s.data.toList) := ⟨_, rfl⟩
  rw [← hR]
  have HR := Lib.hid hR
  clear hR
  obtain ⟨l1, hl1e⟩ : ∃ l1, l1 = Lib.trimPrefix s.data.toList [91] := ⟨_, rfl⟩
  rw [← hl1e] at HC1 hl1
  have HL1 := Lib.hid hl1e
  clear hl1e
  cases hp : Lib.hasPrefix s.data.toList [91] with
  | false =>
    have hE : R = readV none := by rw [HR.out, readS, hp]; rfl
    rw [hE]
    rw [hp] at HC1
    clear HR hE HL1 hp
    unfold readV
    go_enter Tryz.func61, Tryz.ntmps61
    go_wp2
    go_step3
    go_wp2_with (go_at_call 82; refine (HC1 _).out.mono ?_; rintro e w' ⟨rfl, rfl⟩)
    rw [Exit.noGoto_ret]
    refine bodyPost_ret (v := .tuple #[.agg #[.int .u64 0, .int .u64 0, .int .u64 0, .int .u64 0], .int .i64 120]) (by simp [results, Tryz.results61, go_sem]) rfl ⟨rfl, ?_⟩
    exact (Below.refl _ w).alloc (Nat.le_refl _) _
  | true =>
    rw [hp] at HC1
    have HC2 : ∀ w', Hid (Calls Tryz.prog 82 #[.string ⟨l1.toArray⟩, .string ⟨#[94]⟩] w' fun e w'' => e = .returned (.tuple #[.string ⟨(Lib.trimPrefix l1 [94]).toArray⟩, .bool (Lib.hasPrefix l1 [94])]) ∧ w' = w'') := fun w' => (Tryz.strings_CutPrefix ⟨l1.toArray⟩ ⟨#[94]⟩ w').mono fun _ _ ⟨a, b⟩ => ⟨by simpa using a, b.symm⟩
    have hl2 := trim_len l1 [94]
    obtain ⟨l2, hl2e⟩ : ∃ l2, l2 = Lib.trimPrefix l1 [94] := ⟨_, rfl⟩
    rw [← hl2e] at HC2 hl2
    obtain ⟨ot, hot⟩ : ∃ ot, ot = Lib.hasPrefix l1 [94] := ⟨_, rfl⟩
    rw [← hot] at HC2
    have HE : Hid (R = readV ((readItems (l2.length + 1) 0#256 l2).map (fun s => if ot then ~~~s else s))) := by
      refine Lib.hid ?_
      rw [HR.out, readS, hp, ← HL1.out, ← hot, hl2e]
      cases ot with
      | true => rfl
      | false =>
        have : Lib.trimPrefix l1 [94] = l1 := by unfold Lib.trimPrefix; rw [← hot]; rfl
        rw [this]
        simp
    clear HR HL1 hl2e hot hp
    go_enter Tryz.func61, Tryz.ntmps61
    go_wp2
    go_step3
    go_wp2_with fail
    refine (HC1 _).out.mono ?_
    rintro e w' ⟨rfl, rfl⟩
    clear HC1
    go_wp2_with fail
    refine (HC2 _).out.mono ?_
    rintro e w' ⟨rfl, rfl⟩
    clear HC2
    go_wp2
    go_step3
    go_wp2
    go_loopw [4] (fun p wr => ∃ (l : List UInt8) (u : BS) (f : Nat), p = .string ⟨l.toArray⟩ ∧ l.length ≤ 140737488351232 ∧ Hid (l.length < f) ∧ Hid (readItems (l2.length + 1) 0#256 l2 = readItems f u l) ∧ Hid (Blk wr w.heap.size 33 zcs) ∧ Hid (Blk wr (w.heap.size + 1) 33 (cset u)) ∧ Hid (Below w.heap.size w wr))
      (fun p _ => strLen p)
    case atStart =>
      refine ⟨l2, 0#256, l2.length + 1, rfl, by omega, Nat.lt_succ_self _, rfl, ?_, ?_, ?_⟩
      · exact (Blk.new w 33 zcs).alloc _
      · have h := Blk.new (w.alloc (.cells #[.int .u64 0, .int .u64 0, .int .u64 0, .int .u64 0] 33)) 33 #[.int .u64 0, .int .u64 0, .int .u64 0, .int .u64 0]
        rw [World.size_alloc] at h
        have e : cset 0#256 = zcs := by
          have h : ∀ i, i < 4 → wdI 0#256 i = 0 := by decide
          unfold cset zcs; rw [h 0 (by omega), h 1 (by omega), h 2 (by omega), h 3 (by omega)]
        rw [e]
        exact h
      · exact ((Below.refl _ w).alloc (Nat.le_refl _) _).alloc (by simp) _
    case round =>
      obtain ⟨l, u, f, rfl, hl, hf, hr, hZ, hU, hB⟩ := hrel
      have HI := Lib.hid (readItem_any ⟨l.toArray⟩ (by simpa [Lib.size_eq] using hl) wr (HG.out.below (Nat.le_refl _) hB.out))
      obtain ⟨q, hq⟩ : ∃ q, q = itemB l := ⟨_, rfl⟩
      have hq2 : q = itemB (⟨l.toArray⟩ : ByteArray).data.toList := hq
      rw [← hq2] at HI
      clear hq2
      obtain ⟨⟨a, b⟩, n⟩ := q
      dsimp only at HI
      go_wp2_with fail
      refine HI.out.mono ?_
      rintro e w1 ⟨rfl, hB1⟩
      have hZ1 := Lib.hid (hZ.out.below hB1 hZ.out.lt)
      have hU1 := Lib.hid (hU.out.below hB1 hU.out.lt)
      have hBB := Lib.hid (hB.out.trans (hB1.mono hB.out.size))
      have hlt1 : w.heap.size + 1 < w1.heap.size := hU1.out.lt
      clear hZ hU hB hB1 HI
      cases hne : (l == [93]) with
      | true =>
        have hl93 : l = [93] := by simpa using hne
        have hres : Hid (readItems (l2.length + 1) 0#256 l2 = some u) := by
          refine Lib.hid ?_
          rw [hr.out]
          have := hf.out
          match f, this with
          | f + 1, _ => rw [readItems, if_pos hl93]
        have HRE : Hid (R = .tuple #[vset (if ot then ~~~u else u), .int .i64 0]) := by
          refine Lib.hid ?_
          rw [HE.out, hres.out]; rfl
        clear HE hr hf hres
        have c0 : ∀ o, (w1.alloc o).cell? ⟨(w.heap.size + 1), 0, none⟩ = some (.int .u64 (wdI (u) 0)) := fun o => (Blk.alloc hU1.out o).cell 0
        have c1 : ∀ o, (w1.alloc o).cell? ⟨(w.heap.size + 1), 1, none⟩ = some (.int .u64 (wdI (u) 1)) := fun o => (Blk.alloc hU1.out o).cell 1
        have c2 : ∀ o, (w1.alloc o).cell? ⟨(w.heap.size + 1), 2, none⟩ = some (.int .u64 (wdI (u) 2)) := fun o => (Blk.alloc hU1.out o).cell 2
        have c3 : ∀ o, (w1.alloc o).cell? ⟨(w.heap.size + 1), 3, none⟩ = some (.int .u64 (wdI (u) 3)) := fun o => (Blk.alloc hU1.out o).cell 3
        have z0 : ∀ o, (w1.alloc o).cell? ⟨w.heap.size, 0, none⟩ = some (.int .u64 0) := fun o => (Blk.alloc hZ1.out o).cell 0
        have z1 : ∀ o, (w1.alloc o).cell? ⟨w.heap.size, 1, none⟩ = some (.int .u64 0) := fun o => (Blk.alloc hZ1.out o).cell 1
        have z2 : ∀ o, (w1.alloc o).cell? ⟨w.heap.size, 2, none⟩ = some (.int .u64 0) := fun o => (Blk.alloc hZ1.out o).cell 2
        have z3 : ∀ o, (w1.alloc o).cell? ⟨w.heap.size, 3, none⟩ = some (.int .u64 0) := fun o => (Blk.alloc hZ1.out o).cell 3
        have fz : ∀ o i, (w1.alloc o).frozen? ⟨w.heap.size, i, none⟩ = false := fun o => (Blk.alloc hZ1.out o).frozen
        have fc : ∀ o i, (w1.alloc o).frozen? ⟨(w.heap.size + 1), i, none⟩ = false := fun o => (Blk.alloc hU1.out o).frozen
        cases ot with
        | false =>
          go_wp2
          have hb2 := Blk.set4 (Blk.alloc hZ1.out (.cells #[.int .u8 a, .int .u8 b] 103)) (.int .u64 (wdI u 0)) (.int .u64 (wdI u 1)) (.int .u64 (wdI u 2)) (.int .u64 (wdI u 3))
          have d0 := hb2.cell 0
          have d1 := hb2.cell 1
          have d2 := hb2.cell 2
          have d3 := hb2.cell 3
          rw [Exit.noGoto_ret]
          refine bodyPost_ret (v := .tuple #[.agg #[.int .u64 (wdI u 0), .int .u64 (wdI u 1), .int .u64 (wdI u 2), .int .u64 (wdI u 3)], .int .i64 0]) (by simp [results, Tryz.results61, go_sem, d0, d1, d2, d3]) rfl ⟨by rw [HRE.out]; rfl, ?_⟩
          exact below_set4 (hBB.out.alloc hBB.out.size _) (Nat.le_refl _) _ _ _ _
        | true =>
          have HN := fun w' => Lib.hid (not_any u w')
          go_wp2_with fail
          refine (HN _).out.mono ?_
          rintro e w2 ⟨rfl, hB2⟩
          have hZ2 := Lib.hid ((Blk.alloc hZ1.out (.cells #[.int .u8 a, .int .u8 b] 103)).below hB2 (by simp; omega))
          have hU2 := Lib.hid ((Blk.alloc hU1.out (.cells #[.int .u8 a, .int .u8 b] 103)).below hB2 (by simp; omega))
          have hBB2 := Lib.hid ((hBB.out.alloc hBB.out.size (.cells #[.int .u8 a, .int .u8 b] 103)).trans (hB2.mono (by have := hBB.out.size; simp; omega)))
          clear hZ1 hU1 hBB hB2 c0 c1 c2 c3 z0 z1 z2 z3 fz fc HN
          have HRE2 : Hid (R = .tuple #[vset (~~~u), .int .i64 0]) := HRE
          clear HRE
          obtain ⟨v, hv⟩ : ∃ v, v = ~~~u := ⟨_, rfl⟩
          rw [← hv] at HRE2 ⊢
          clear hv
          have c0 : w2.cell? ⟨(w.heap.size + 1), 0, none⟩ = some (.int .u64 (wdI (u) 0)) := Blk.cell hU2.out 0
          have c1 : w2.cell? ⟨(w.heap.size + 1), 1, none⟩ = some (.int .u64 (wdI (u) 1)) := Blk.cell hU2.out 1
          have c2 : w2.cell? ⟨(w.heap.size + 1), 2, none⟩ = some (.int .u64 (wdI (u) 2)) := Blk.cell hU2.out 2
          have c3 : w2.cell? ⟨(w.heap.size + 1), 3, none⟩ = some (.int .u64 (wdI (u) 3)) := Blk.cell hU2.out 3
          have z0 : w2.cell? ⟨w.heap.size, 0, none⟩ = some (.int .u64 0) := Blk.cell hZ2.out 0
          have z1 : w2.cell? ⟨w.heap.size, 1, none⟩ = some (.int .u64 0) := Blk.cell hZ2.out 1
          have z2 : w2.cell? ⟨w.heap.size, 2, none⟩ = some (.int .u64 0) := Blk.cell hZ2.out 2
          have z3 : w2.cell? ⟨w.heap.size, 3, none⟩ = some (.int .u64 0) := Blk.cell hZ2.out 3
          have fz : ∀ i, w2.frozen? ⟨w.heap.size, i, none⟩ = false := Blk.frozen hZ2.out
          have fc : ∀ i, w2.frozen? ⟨(w.heap.size + 1), i, none⟩ = false := Blk.frozen hU2.out
          unfold vset
          have hU3 := Lib.hid (Blk.set4 hU2.out (.int .u64 (wdI v 0)) (.int .u64 (wdI v 1)) (.int .u64 (wdI v 2)) (.int .u64 (wdI v 3)))
          have hZ3 := Lib.hid ((((hZ2.out.other (a := ⟨w.heap.size + 1, 0, none⟩) (by simp) (.int .u64 (wdI v 0))).other (a := ⟨w.heap.size + 1, 1, none⟩) (by simp) (.int .u64 (wdI v 1))).other (a := ⟨w.heap.size + 1, 2, none⟩) (by simp) (.int .u64 (wdI v 2))).other (a := ⟨w.heap.size + 1, 3, none⟩) (by simp) (.int .u64 (wdI v 3)))
          have hB3 := Lib.hid (below_set4 (B := w.heap.size + 1) hBB2.out (by omega) (.int .u64 (wdI v 0)) (.int .u64 (wdI v 1)) (.int .u64 (wdI v 2)) (.int .u64 (wdI v 3)))
          go_wp2
          have hb2 := Blk.set4 hZ3.out (.int .u64 (wdI v 0)) (.int .u64 (wdI v 1)) (.int .u64 (wdI v 2)) (.int .u64 (wdI v 3))
          have d0 := hb2.cell 0
          have d1 := hb2.cell 1
          have d2 := hb2.cell 2
          have d3 := hb2.cell 3
          rw [Exit.noGoto_ret]
          refine bodyPost_ret (v := .tuple #[.agg #[.int .u64 (wdI v 0), .int .u64 (wdI v 1), .int .u64 (wdI v 2), .int .u64 (wdI v 3)], .int .i64 0]) (by simp [results, Tryz.results61, go_sem, d0, d1, d2, d3]) rfl ⟨by rw [HRE2.out]; rfl, ?_⟩
          exact below_set4 hB3.out (Nat.le_refl _) _ _ _ _
      | false =>
        have hl93 : ¬ l = [93] := by simpa using hne
        by_cases hn0 : n = 0
        · subst hn0
          have hres : Hid (readItems (l2.length + 1) 0#256 l2 = none) := by
            refine Lib.hid ?_
            rw [hr.out]
            have := hf.out
            match f, this with
            | f + 1, _ => rw [readItems, if_neg hl93, ← hq, if_pos rfl]
          have HRE : Hid (R = .tuple #[.agg #[.int .u64 0, .int .u64 0, .int .u64 0, .int .u64 0], .int .i64 120]) := by
            refine Lib.hid ?_
            rw [HE.out, hres.out]; rfl
          clear HE hr hf hres hq
          have z0 : ∀ o, (w1.alloc o).cell? ⟨w.heap.size, 0, none⟩ = some (.int .u64 0) := fun o => (Blk.alloc hZ1.out o).cell 0
          have z1 : ∀ o, (w1.alloc o).cell? ⟨w.heap.size, 1, none⟩ = some (.int .u64 0) := fun o => (Blk.alloc hZ1.out o).cell 1
          have z2 : ∀ o, (w1.alloc o).cell? ⟨w.heap.size, 2, none⟩ = some (.int .u64 0) := fun o => (Blk.alloc hZ1.out o).cell 2
          have z3 : ∀ o, (w1.alloc o).cell? ⟨w.heap.size, 3, none⟩ = some (.int .u64 0) := fun o => (Blk.alloc hZ1.out o).cell 3
          have fz : ∀ o i, (w1.alloc o).frozen? ⟨w.heap.size, i, none⟩ = false := fun o => (Blk.alloc hZ1.out o).frozen
          go_wp2
          have hb2 := Blk.set4 (Blk.alloc hZ1.out (.cells #[.int .u8 a, .int .u8 b] 103)) (.int .u64 0) (.int .u64 0) (.int .u64 0) (.int .u64 0)
          have d0 := hb2.cell 0
          have d1 := hb2.cell 1
          have d2 := hb2.cell 2
          have d3 := hb2.cell 3
          rw [Exit.noGoto_ret]
          refine bodyPost_ret (v := .tuple #[.agg #[.int .u64 0, .int .u64 0, .int .u64 0, .int .u64 0], .int .i64 120]) (by simp [results, Tryz.results61, go_sem, d0, d1, d2, d3]) rfl ⟨by rw [HRE.out], ?_⟩
          exact below_set4 (hBB.out.alloc hBB.out.size _) (Nat.le_refl _) _ _ _ _
        · have hn1 : ¬ (n : Int) = 0 := by omega
          have hbd := itemB_lt l
          rw [← hq] at hbd
          dsimp only at hbd
          obtain ⟨ha, hb, hnl⟩ := hbd
          obtain ⟨g, hg⟩ : ∃ g, f = g + 1 := ⟨f - 1, by have := hf.out; omega⟩
          have hstep : Hid (readItems (l2.length + 1) 0#256 l2 = readItems g (addR u (a, b)) (l.drop n)) := by
            refine Lib.hid ?_
            rw [hr.out, hg, readItems, if_neg hl93, ← hq, if_neg hn0]
          have hfd : Hid ((l.drop n).length < g) := by
            refine Lib.hid ?_
            have := hf.out
            rw [List.length_drop]; omega
          clear hr hf hq hg
          have HW := fun w' => Lib.hid (withRange_any u (a, b) ha hb w')
          have hdrop : Hid (ByteArray.extract ⟨l.toArray⟩ n l.length = ⟨(l.drop n).toArray⟩) := by
            refine Lib.hid ?_
            apply ByteArray.ext
            apply Array.ext'
            have := extract_drop ⟨l.toArray⟩ n
            simpa [ByteArray.size] using this
          have c0 : ∀ o, (w1.alloc o).cell? ⟨(w.heap.size + 1), 0, none⟩ = some (.int .u64 (wdI (u) 0)) := fun o => (Blk.alloc hU1.out o).cell 0
          have c1 : ∀ o, (w1.alloc o).cell? ⟨(w.heap.size + 1), 1, none⟩ = some (.int .u64 (wdI (u) 1)) := fun o => (Blk.alloc hU1.out o).cell 1
          have c2 : ∀ o, (w1.alloc o).cell? ⟨(w.heap.size + 1), 2, none⟩ = some (.int .u64 (wdI (u) 2)) := fun o => (Blk.alloc hU1.out o).cell 2
          have c3 : ∀ o, (w1.alloc o).cell? ⟨(w.heap.size + 1), 3, none⟩ = some (.int .u64 (wdI (u) 3)) := fun o => (Blk.alloc hU1.out o).cell 3
          go_wp2_with fail
          refine (HW _).out.mono ?_
          rintro e w2 ⟨rfl, hB2⟩
          have hZ2 := Lib.hid ((Blk.alloc hZ1.out (.cells #[.int .u8 a, .int .u8 b] 103)).below hB2 (by simp; omega))
          have hU2 := Lib.hid ((Blk.alloc hU1.out (.cells #[.int .u8 a, .int .u8 b] 103)).below hB2 (by simp; omega))
          have hBB2 := Lib.hid ((hBB.out.alloc hBB.out.size (.cells #[.int .u8 a, .int .u8 b] 103)).trans (hB2.mono (by have := hBB.out.size; simp; omega)))
          clear hZ1 hU1 hBB hB2 c0 c1 c2 c3 HW
          obtain ⟨v, hv⟩ : ∃ v, v = addR u (a, b) := ⟨_, rfl⟩
          rw [← hv] at hstep ⊢
          clear hv
          have c0 : w2.cell? ⟨(w.heap.size + 1), 0, none⟩ = some (.int .u64 (wdI (u) 0)) := Blk.cell hU2.out 0
          have c1 : w2.cell? ⟨(w.heap.size + 1), 1, none⟩ = some (.int .u64 (wdI (u) 1)) := Blk.cell hU2.out 1
          have c2 : w2.cell? ⟨(w.heap.size + 1), 2, none⟩ = some (.int .u64 (wdI (u) 2)) := Blk.cell hU2.out 2
          have c3 : w2.cell? ⟨(w.heap.size + 1), 3, none⟩ = some (.int .u64 (wdI (u) 3)) := Blk.cell hU2.out 3
          have fc : ∀ i, w2.frozen? ⟨(w.heap.size + 1), i, none⟩ = false := Blk.frozen hU2.out
          unfold vset
          go_wp2
          go_roundw
          case rel =>
            refine ⟨l.drop n, v, g, ?_, ?_, hfd, hstep, ?_, ?_, ?_⟩
            · rw [hdrop.out]
            · rw [List.length_drop]; omega
            · exact (((hZ2.out.other (by simp) _).other (by simp) _).other (by simp) _).other (by simp) _
            · exact hU2.out.set4 _ _ _ _
            · exact below_set4 hBB2.out (by omega) _ _ _ _
          case measure => rw [hdrop.out]; simp [strLen, ByteArray.size]; omega
end Go.Proofs.YtdodkbpagbblmaaGreatDoor
end
section
namespace Go.Proofs.YtdodkbpagbblmaaGreatDoor
open Go Go.RowKit

/-! ### bytes of words -/
def digB (b : Nat) : Bool := decide (48 ≤ b ∧ b ≤ 57)
def letB (b : Nat) : Bool := decide (97 ≤ b ∧ b ≤ 122) || decide (65 ≤ b ∧ b ≤ 90)
def namB (b : Nat) : Bool := letB b || digB b || decide (b = 95)
def blkB (b : Nat) : Bool := decide (b = 32) || decide (b = 9) || decide (b = 10) || decide (b = 13)
/-- The signs: ; . = , ( ) { } > ? * + -/
def sgnB (b : Nat) : Bool := decide (b = 59 ∨ b = 46 ∨ b = 61 ∨ b = 44 ∨ b = 40 ∨ b = 41 ∨ b = 123 ∨ b = 125 ∨ b = 62 ∨ b = 63 ∨ b = 42 ∨ b = 43)

theorem isDigit_any (b : Nat) (w : World) : Calls Tryz.prog 33 #[.int .u8 b] w fun e w' => e = .returned (.bool (digB b)) ∧ w = w' := by
  unfold digB
  by_cases h1 : 48 ≤ b
  · have d1 : (48 : Int) ≤ b := by omega
    by_cases h2 : b ≤ 57
    · have d2 : (b : Int) ≤ 57 := by omega
      have hd : decide (48 ≤ b ∧ b ≤ 57) = true := by simp [h1, h2]
      rw [hd]
      go_enter Tryz.func33, Tryz.ntmps33
      go_wp2
      go_ret
      simp
    · have d2 : ¬ (b : Int) ≤ 57 := by omega
      have hd : decide (48 ≤ b ∧ b ≤ 57) = false := by simp [h2]
      rw [hd]
      go_enter Tryz.func33, Tryz.ntmps33
      go_wp2
      go_ret
      simp
  · have d1 : ¬ (48 : Int) ≤ b := by omega
    have hd : decide (48 ≤ b ∧ b ≤ 57) = false := by simp [h1]
    rw [hd]
    go_enter Tryz.func33, Tryz.ntmps33
    go_wp2
    go_ret
    simp

theorem inName_any (b : Nat) (w : World) : Calls Tryz.prog 54 #[.int .u8 b] w fun e w' => e = .returned (.bool (namB b)) ∧ w = w' := by
  have HD := fun w' => Lib.hid (isDigit_any b w')
  have key : ∀ r, namB b = r → (Calls Tryz.prog 54 #[.int .u8 b] w fun e w' => e = .returned (.bool r) ∧ w = w') → Calls Tryz.prog 54 #[.int .u8 b] w fun e w' => e = .returned (.bool (namB b)) ∧ w = w' := fun r h k => by rw [h]; exact k
  have hdg : digB b = decide (48 ≤ b ∧ b ≤ 57) := rfl
  by_cases h1 : 97 ≤ b ∧ b ≤ 122
  · refine key true (by simp [namB, letB, h1]) ?_
    have d1 : (97 : Int) ≤ b := by omega
    have d2 : (b : Int) ≤ 122 := by omega
    clear key hdg
    go_enter Tryz.func54, Tryz.ntmps54
    go_wp2
    go_ret
    simp
  · by_cases h2 : 65 ≤ b ∧ b ≤ 90
    · refine key true (by simp [namB, letB, h2]) ?_
      have d1 : ¬ (97 : Int) ≤ b := by omega
      have d3 : (65 : Int) ≤ b := by omega
      have d4 : (b : Int) ≤ 90 := by omega
      clear key hdg
      go_enter Tryz.func54, Tryz.ntmps54
      go_wp2
      go_ret
      simp
    · have hl : letB b = false := by simp [letB, h1, h2]
      have e1 : (decide ((97 : Int) ≤ b) && decide ((b : Int) ≤ 122)) = false := by simp; omega
      cases hd : digB b with
      | true =>
        refine key true (by simp [namB, hl, hd]) ?_
        rw [hd] at HD
        rw [hd] at hdg
        have d5 := of_decide_eq_true hdg.symm
        have d1 : ¬ (97 : Int) ≤ b := by omega
        have d3 : ¬ (65 : Int) ≤ b := by omega
        clear key hdg hl e1 hd
        go_enter Tryz.func54, Tryz.ntmps54
        go_wp2_with (go_at_call 33; refine (HD _).out.mono ?_; rintro e w' ⟨rfl, rfl⟩)
        go_ret
        simp
      | false =>
        rw [hd] at HD
        clear hdg
        by_cases h95 : b = 95
        · refine key true (by simp [namB, hl, hd, h95]) ?_
          clear key hl e1 hd
          subst h95
          go_enter Tryz.func54, Tryz.ntmps54
          go_wp2_with (go_at_call 33; refine (HD _).out.mono ?_; rintro e w' ⟨rfl, rfl⟩)
          go_ret
          simp
        · refine key false (by simp [namB, hl, hd, h95]) ?_
          have d6 : ¬ (b : Int) = 95 := by omega
          have d7 : ((b : Int) == 95) = false := by rw [beq_eq_false_iff_ne]; omega
          clear key hl e1 hd
          by_cases h3 : 97 ≤ b
          · have d1 : (97 : Int) ≤ b := by omega
            have d2 : ¬ (b : Int) ≤ 122 := by omega
            have d3 : (65 : Int) ≤ b := by omega
            have d4 : ¬ (b : Int) ≤ 90 := by omega
            go_enter Tryz.func54, Tryz.ntmps54
            go_wp2_with (go_at_call 33; refine (HD _).out.mono ?_; rintro e w' ⟨rfl, rfl⟩)
            go_ret
            simp
          · have d1 : ¬ (97 : Int) ≤ b := by omega
            by_cases h4 : 65 ≤ b
            · have d3 : (65 : Int) ≤ b := by omega
              have d4 : ¬ (b : Int) ≤ 90 := by omega
              go_enter Tryz.func54, Tryz.ntmps54
              go_wp2_with (go_at_call 33; refine (HD _).out.mono ?_; rintro e w' ⟨rfl, rfl⟩)
              go_ret
              simp
            · have d3 : ¬ (65 : Int) ≤ b := by omega
              go_enter Tryz.func54, Tryz.ntmps54
              go_wp2_with (go_at_call 33; refine (HD _).out.mono ?_; rintro e w' ⟨rfl, rfl⟩)
              go_ret
              simp

theorem isBlank_any (b : Nat) (w : World) : Calls Tryz.prog 55 #[.int .u8 b] w fun e w' => e = .returned (.bool (blkB b)) ∧ w = w' := by
  have key : ∀ r, blkB b = r → (Calls Tryz.prog 55 #[.int .u8 b] w fun e w' => e = .returned (.bool r) ∧ w = w') → Calls Tryz.prog 55 #[.int .u8 b] w fun e w' => e = .returned (.bool (blkB b)) ∧ w = w' := fun r h k => by rw [h]; exact k
  by_cases h1 : b = 32
  · refine key true (by simp [blkB, h1]) ?_
    clear key; subst h1
    go_enter Tryz.func55, Tryz.ntmps55
    go_wp2
    go_ret
    simp
  · by_cases h2 : b = 9
    · refine key true (by simp [blkB, h2]) ?_
      clear key; subst h2
      go_enter Tryz.func55, Tryz.ntmps55
      go_wp2
      go_ret
      simp
    · by_cases h3 : b = 10
      · refine key true (by simp [blkB, h3]) ?_
        clear key; subst h3
        go_enter Tryz.func55, Tryz.ntmps55
        go_wp2
        go_ret
        simp
      · by_cases h4 : b = 13
        · refine key true (by simp [blkB, h4]) ?_
          clear key; subst h4
          go_enter Tryz.func55, Tryz.ntmps55
          go_wp2
          go_ret
          simp
        · refine key false (by simp [blkB, h1, h2, h3, h4]) ?_
          have d1 : ((b : Int) == 32) = false := by rw [beq_eq_false_iff_ne]; omega
          have d2 : ((b : Int) == 9) = false := by rw [beq_eq_false_iff_ne]; omega
          have d3 : ((b : Int) == 10) = false := by rw [beq_eq_false_iff_ne]; omega
          have d4 : ((b : Int) == 13) = false := by rw [beq_eq_false_iff_ne]; omega
          clear key
          go_enter Tryz.func55, Tryz.ntmps55
          go_wp2
          go_ret
          simp

theorem sgn_all : ∀ b : Fin 256, decide (0 ≤ Lib.indexByte [59, 46, 61, 44, 40, 41, 123, 125, 62, 63, 42, 43] b.val.toUInt8) = sgnB b.val := by decide +kernel
theorem isSgn_any (b : Nat) (hb : b < 256) (w : World) : Calls Tryz.prog 42 #[.int .u8 b] w fun e w' => e = .returned (.bool (sgnB b)) ∧ w = w' := by
  have h := sgn_all ⟨b, hb⟩
  rw [← h]; clear h
  go_enter Tryz.func42, Tryz.ntmps42
  go_wp2_with (go_at_call 62; refine (Tryz.strings_IndexByte _ _ _).mono ?_; rintro e w' ⟨rfl, rfl⟩)
  go_ret
  exact ⟨by simp, rfl⟩

/-! ### how far a name goes -/
def runL : List UInt8 → Nat
  | [] => 0
  | c :: r => if namB c.toNat then runL r + 1 else 0
theorem runL_cons (c : UInt8) (r : List UInt8) : runL (c :: r) = if namB c.toNat then runL r + 1 else 0 := rfl
theorem runL_le (l : List UInt8) : runL l ≤ l.length := by
  induction l with
  | nil => simp [runL]
  | cons c r ih => unfold runL; split <;> simp <;> omega
theorem runL_drop (l : List UInt8) : ∀ k, k ≤ runL l → runL l = k + runL (l.drop k) := by
  induction l with
  | nil => intro k hk; simp [runL] at hk; subst hk; simp [runL]
  | cons c r ih =>
    intro k hk
    cases k with
    | zero => simp
    | succ k =>
      rw [runL_cons] at hk ⊢
      split
      · rename_i h
        rw [if_pos h] at hk
        rw [List.drop_succ_cons, ih k (by omega)]
        omega
      · rename_i h
        rw [if_neg h] at hk
        omega

theorem drop_at (s : ByteArray) (k : Nat) (h : k < s.size) : s.data.toList.drop k = s[k] :: s.data.toList.drop (k + 1) := by
  have h' : k < s.data.toList.length := by rw [← Lib.size_eq]; exact h
  rw [List.drop_eq_getElem_cons h']
  congr 1

set_option maxHeartbeats 800000 in
theorem runLength_any (s : ByteArray) (hs : s.size ≤ 140737488351232) (w : World) : Calls Tryz.prog 34 #[.string s] w fun e w' => e = .returned (.int .i64 (runL s.data.toList : Nat)) ∧ w = w' := by
  have hle := runL_le s.data.toList
  rw [← Lib.size_eq] at hle
  go_enter Tryz.func34, Tryz.ntmps34
  go_wp2
  go_loop [3] (fun i => ∃ k : Nat, i = .int .i64 k ∧ k ≤ runL s.data.toList) (fun i => s.size - (intOf i).toNat)
  case atStart => exact ⟨0, rfl, Nat.zero_le _⟩
  case round =>
    obtain ⟨k, rfl, hk⟩ := hrel
    have hrd := runL_drop s.data.toList k hk
    by_cases hlt : k < s.size
    · obtain ⟨b, hb⟩ : ∃ b, b = (s[k]'hlt).toNat := ⟨_, rfl⟩
      have hi : ∀ h, (s[k]'h).toNat = b := fun h => hb.symm
      rw [drop_at s k hlt] at hrd
      rw [runL_cons, hi] at hrd
      have HN := inName_any b w
      clear hb
      have n1 : (k : Int) < (s.size : Int) := by omega
      cases hn : namB b with
      | true =>
        rw [hn] at hrd HN
        have hk2 : k + 1 ≤ runL s.data.toList := by simp at hrd; omega
        have HN := Lib.hid HN
        have HK := Lib.hid hk2
        clear hrd hn hk2
        go_wp2_with (go_at_call 54; refine HN.out.mono ?_; rintro e w' ⟨rfl, rfl⟩)
        go_round
        case rel => exact ⟨k + 1, by go_num, HK.out⟩
        case measure => simp [intOf]; omega
      | false =>
        rw [hn] at hrd HN
        have hk2 : runL s.data.toList = k := by simp at hrd; omega
        have HK2 := Lib.hid hk2
        have HN := Lib.hid HN
        clear hrd hn hk2 hk hle
        go_wp2_with (go_at_call 54; refine HN.out.mono ?_; rintro e w' ⟨rfl, rfl⟩)
        go_ret
        exact ⟨by rw [HK2.out]; rfl, rfl⟩
    · have hk2 : runL s.data.toList = k := by omega
      have HK2 := Lib.hid hk2
      have n1 : ¬ (k : Int) < (s.size : Int) := by omega
      clear hrd hk2 hk hle
      go_wp2
      go_ret
      exact ⟨by rw [HK2.out]; rfl, rfl⟩
end Go.Proofs.YtdodkbpagbblmaaGreatDoor
end
section
namespace Go.Proofs.YtdodkbpagbblmaaGreatDoor
open Go Go.RowKit

/-- Is a text one name? -/
def nameB : List UInt8 → Bool
  | [] => false
  | c :: r => decide ((c :: r).length ≤ 64) && !digB c.toNat && decide (runL (c :: r) = (c :: r).length)

set_option maxHeartbeats 800000 in
theorem name_any (s : ByteArray) (hs : s.size ≤ 140737488351232) (w : World) : Calls Tryz.prog 19 #[.string s] w fun e w' => e = .returned (.bool (nameB s.data.toList)) ∧ w = w' := by
  have key : ∀ r, nameB s.data.toList = r → (Calls Tryz.prog 19 #[.string s] w fun e w' => e = .returned (.bool r) ∧ w = w') → Calls Tryz.prog 19 #[.string s] w fun e w' => e = .returned (.bool (nameB s.data.toList)) ∧ w = w' := fun r h k => by rw [h]; exact k
  by_cases h0 : s.size = 0
  · refine key false (by rw [(list_empty s).1 h0]; rfl) ?_
    have hem := isEmpty_of s h0
    have hem2 : (!s.toList.isEmpty) = false := by rw [hem]; rfl
    clear key h0
    go_enter Tryz.func19, Tryz.ntmps19
    go_wp2
    go_ret
    simp
  · have hem := isEmpty_not s h0
    have hem2 : (!s.toList.isEmpty) = true := by rw [hem]; rfl
    obtain ⟨b, hb⟩ : ∃ b, b = (s[0]'(by omega)).toNat := ⟨_, rfl⟩
    have hi : ∀ h, (s[0]'h).toNat = b := fun h => hb.symm
    have hE : nameB s.data.toList = (decide (s.size ≤ 64) && !digB b && decide (runL s.data.toList = s.size)) := by
      have h := drop_at s 0 (by omega)
      rw [List.drop_zero] at h
      rw [Lib.size_eq, h, hb]
      rfl
    have HE := Lib.hid hE
    have HD := Lib.hid (isDigit_any b w)
    have HR := Lib.hid (runLength_any s hs w)
    have n0 : (0 : Int) < (s.size : Int) := by omega
    clear hb hE
    by_cases h1 : s.size ≤ 64
    · have d1 : (s.size : Int) ≤ 64 := by omega
      cases hd : digB b with
      | true =>
        refine key false (by rw [HE.out, hd]; simp) ?_
        rw [hd] at HD
        clear key HE hd h0
        go_enter Tryz.func19, Tryz.ntmps19
        go_wp2_with (first | (go_at_call 33; refine HD.out.mono ?_; rintro e w' ⟨rfl, rfl⟩) | (go_at_call 34; refine HR.out.mono ?_; rintro e w' ⟨rfl, rfl⟩))
        go_ret
        simp
      | false =>
        rw [hd] at HD
        obtain ⟨q, hq⟩ : ∃ q, q = runL s.data.toList := ⟨_, rfl⟩
        rw [← hq] at HR HE
        by_cases h2 : q = s.size
        · refine key true (by rw [HE.out, hd]; simp [h1, h2]) ?_
          have d2 : ((q : Int) == (s.size : Int)) = true := by rw [beq_iff_eq]; omega
          clear key HE hd h0 hq h2
          go_enter Tryz.func19, Tryz.ntmps19
          go_wp2_with (first | (go_at_call 33; refine HD.out.mono ?_; rintro e w' ⟨rfl, rfl⟩) | (go_at_call 34; refine HR.out.mono ?_; rintro e w' ⟨rfl, rfl⟩))
          go_ret
          simp
        · refine key false (by rw [HE.out, hd]; simp [h1, h2]) ?_
          have d2 : ((q : Int) == (s.size : Int)) = false := by rw [beq_eq_false_iff_ne]; omega
          clear key HE hd h0 hq h2
          go_enter Tryz.func19, Tryz.ntmps19
          go_wp2_with (first | (go_at_call 33; refine HD.out.mono ?_; rintro e w' ⟨rfl, rfl⟩) | (go_at_call 34; refine HR.out.mono ?_; rintro e w' ⟨rfl, rfl⟩))
          go_ret
          simp
    · have d1 : ¬ (s.size : Int) ≤ 64 := by omega
      refine key false (by rw [HE.out]; simp [h1]) ?_
      clear key HE h0
      go_enter Tryz.func19, Tryz.ntmps19
      go_wp2_with (first | (go_at_call 33; refine HD.out.mono ?_; rintro e w' ⟨rfl, rfl⟩) | (go_at_call 34; refine HR.out.mono ?_; rintro e w' ⟨rfl, rfl⟩))
      go_ret
      simp

/-- What an escape at a text's beginning says, and how long it is. -/
def escD : List UInt8 → Nat × Nat
  | _ :: b :: r =>
    if b.toNat = 110 then (10, 2) else if b.toNat = 116 then (9, 2) else if b.toNat = 114 then (13, 2) else if b.toNat = 34 ∨ b.toNat = 92 then (b.toNat, 2)
    else if b.toNat = 120 ∧ 2 ≤ r.length then (match hexs 0 (r.take 2) with
      | some n => (n % 256, 4)
      | none => (0, 0))
    else (0, 0)
  | _ => (0, 0)

set_option maxRecDepth 100000 in
set_option maxHeartbeats 4000000 in
theorem rdEscape_any (s : ByteArray) (hs : s.size ≤ 140737488351232) (w : World) (hG : Glob w) :
    Calls Tryz.prog 81 #[.string s] w fun e w' => e = .returned (.tuple #[.int .u8 (escD s.data.toList).1, .int .i64 (escD s.data.toList).2]) ∧ Below w.heap.size w w' := by
  have HG := Lib.hid hG
  clear hG
  by_cases h2 : s.size < 2
  · have hE : escD s.data.toList = (0, 0) := by
      have : s.data.toList.length < 2 := by rw [← Lib.size_eq]; exact h2
      generalize s.data.toList = l at this
      match l, this with
      | [], _ => rfl
      | [_], _ => rfl
    rw [hE]
    go_enter Tryz.func81, Tryz.ntmps81
    go_wp2
    go_ret2
    exact ⟨rfl, Below.refl _ _⟩
  · obtain ⟨b, hb⟩ : ∃ b, b = (s[1]'(by omega)).toNat := ⟨_, rfl⟩
    have hb256 : b < 256 := by rw [hb]; exact (s[1]'(by omega)).toNat_lt
    have hi : ∀ h, (s[1]'h).toNat = b := fun h => hb.symm
    have HE : Hid (escD s.data.toList = if b = 110 then (10, 2) else if b = 116 then (9, 2) else if b = 114 then (13, 2) else if b = 34 ∨ b = 92 then (b, 2)
        else if b = 120 ∧ 4 ≤ s.size then (match hexs 0 (s.extract 2 4).data.toList with
          | some n => (n % 256, 4)
          | none => (0, 0))
        else (0, 0)) := by
      refine Lib.hid ?_
      have hl : ∃ x y r, s.data.toList = x :: y :: r := by
        have : 2 ≤ s.data.toList.length := by rw [← Lib.size_eq]; omega
        match s.data.toList, this with
        | x :: y :: r, _ => exact ⟨x, y, r, rfl⟩
      obtain ⟨x, y, r, hl⟩ := hl
      have hy : b = y.toNat := by
        rw [hb]
        show (s.data[1]'_).toNat = _
        rw [← Array.getElem_toList]
        simp [hl]
      have hr : (s.extract 2 4).data.toList = r.take 2 := by
        rw [ByteArray.data_extract, Array.toList_extract, List.extract_eq_take_drop, hl]
        rfl
      have hz : 4 ≤ s.size ↔ 2 ≤ r.length := by rw [Lib.size_eq, hl]; simp
      rw [hl, hy, hr]
      simp only [escD, hz]
    clear hb
    by_cases c1 : b = 110
    · have hE : escD s.data.toList = (10, 2) := by rw [HE.out, if_pos c1]
      rw [hE]
      subst c1
      go_enter Tryz.func81, Tryz.ntmps81
      go_wp2
      go_ret2
      exact ⟨rfl, Below.refl _ _⟩
    · by_cases c2 : b = 116
      · have hE : escD s.data.toList = (9, 2) := by rw [HE.out, if_neg c1, if_pos c2]
        rw [hE]
        subst c2
        go_enter Tryz.func81, Tryz.ntmps81
        go_wp2
        go_ret2
        exact ⟨rfl, Below.refl _ _⟩
      · by_cases c3 : b = 114
        · have hE : escD s.data.toList = (13, 2) := by rw [HE.out, if_neg c1, if_neg c2, if_pos c3]
          rw [hE]
          subst c3
          go_enter Tryz.func81, Tryz.ntmps81
          go_wp2
          go_ret2
          exact ⟨rfl, Below.refl _ _⟩
        · have d1 : ¬ (b : Int) = 110 := by omega
          have d2 : ¬ (b : Int) = 116 := by omega
          have d3 : ¬ (b : Int) = 114 := by omega
          by_cases c4 : b = 34
          · have hE : escD s.data.toList = (34, 2) := by rw [HE.out, if_neg c1, if_neg c2, if_neg c3, if_pos (.inl c4), c4]
            rw [hE]
            subst c4
            clear HE hE
            go_enter Tryz.func81, Tryz.ntmps81
            go_wp2
            go_ret2
            exact ⟨rfl, Below.refl _ _⟩
          · by_cases c5 : b = 92
            · have hE : escD s.data.toList = (92, 2) := by rw [HE.out, if_neg c1, if_neg c2, if_neg c3, if_pos (.inr c5), c5]
              rw [hE]
              subst c5
              clear HE hE
              go_enter Tryz.func81, Tryz.ntmps81
              go_wp2
              go_ret2
              exact ⟨rfl, Below.refl _ _⟩
            · have d4 : ¬ (b : Int) = 34 := by omega
              have d5 : ¬ (b : Int) = 92 := by omega
              by_cases c6 : b = 120
              · by_cases c7 : 4 ≤ s.size
                · have hE : escD s.data.toList = (match hexs 0 (s.extract 2 4).data.toList with
                      | some n => (n % 256, 4)
                      | none => (0, 0)) := by rw [HE.out, if_neg c1, if_neg c2, if_neg c3, if_neg (by omega), if_pos ⟨c6, c7⟩]
                  rw [hE]
                  clear HE hE
                  have hx2 : (s.extract 2 4).size = 2 := by rw [ByteArray.size_extract]; omega
                  have HP := Lib.hid (parseUint_any (s.extract 2 4) hx2 w HG.out)
                  obtain ⟨o, ho⟩ : ∃ o, o = hexs 0 (s.extract 2 4).data.toList := ⟨_, rfl⟩
                  rw [← ho] at HP ⊢
                  clear ho hx2
                  subst c6
                  have c8 : ¬ (s.size : Int) < 4 := by omega
                  go_enter Tryz.func81, Tryz.ntmps81
                  go_wp2_with fail
                  refine HP.out.mono ?_
                  rintro e w1 ⟨hB, he⟩
                  have HB := Lib.hid hB
                  clear hB HP
                  cases o with
                  | some n =>
                    dsimp only at he
                    subst he
                    go_wp2
                    go_ret2
                    exact ⟨by simp, HB.out⟩
                  | none =>
                    dsimp only at he
                    obtain ⟨N, rfl⟩ := he
                    go_wp2
                    go_ret2
                    exact ⟨rfl, HB.out⟩
                · have hE : escD s.data.toList = (0, 0) := by rw [HE.out, if_neg c1, if_neg c2, if_neg c3, if_neg (by omega), if_neg (fun h => c7 h.2)]
                  rw [hE]
                  subst c6
                  have c8 : (s.size : Int) < 4 := by omega
                  clear HE hE
                  go_enter Tryz.func81, Tryz.ntmps81
                  go_wp2
                  go_ret2
                  exact ⟨rfl, Below.refl _ _⟩
              · have hE : escD s.data.toList = (0, 0) := by rw [HE.out, if_neg c1, if_neg c2, if_neg c3, if_neg (by omega), if_neg (fun h => c6 h.1)]
                rw [hE]
                have d6 : ¬ (b : Int) = 120 := by omega
                clear HE hE
                go_enter Tryz.func81, Tryz.ntmps81
                go_wp2
                go_ret2
                exact ⟨rfl, Below.refl _ _⟩

/-- The byte at a text's beginning, and how long it stands there. -/
def byteD : List UInt8 → Nat × Nat
  | [] => (0, 0)
  | c :: r => if c.toNat = 92 then escD (c :: r) else if 32 ≤ c.toNat ∧ c.toNat ≤ 126 then (c.toNat, 1) else (0, 0)

set_option maxHeartbeats 800000 in
theorem rdByte_any (s : ByteArray) (hs : s.size ≤ 140737488351232) (w : World) (hG : Glob w) :
    Calls Tryz.prog 59 #[.string s] w fun e w' => e = .returned (.tuple #[.int .u8 (byteD s.data.toList).1, .int .i64 (byteD s.data.toList).2]) ∧ Below w.heap.size w w' := by
  have HR := Lib.hid (rdEscape_any s hs w hG)
  clear hG
  by_cases h0 : s.size = 0
  · have hE : byteD s.data.toList = (0, 0) := by rw [(list_empty s).1 h0]; rfl
    have hem := isEmpty_of s h0
    rw [hE]
    go_enter Tryz.func59, Tryz.ntmps59
    go_wp2
    go_ret2
    exact ⟨rfl, Below.refl _ _⟩
  · have hem := isEmpty_not s h0
    obtain ⟨b, hb⟩ : ∃ b, b = (s[0]'(by omega)).toNat := ⟨_, rfl⟩
    have hi : ∀ h, (s[0]'h).toNat = b := fun h => hb.symm
    have HE : Hid (byteD s.data.toList = if b = 92 then escD s.data.toList else if 32 ≤ b ∧ b ≤ 126 then (b, 1) else (0, 0)) := by
      refine Lib.hid ?_
      have h := drop_at s 0 (by omega)
      rw [List.drop_zero] at h
      rw [h, hb]
      rfl
    clear hb
    have hpos : (0 : Int) < s.size := by omega
    by_cases c1 : b = 92
    · have hE : byteD s.data.toList = escD s.data.toList := by rw [HE.out, if_pos c1]
      rw [hE]
      clear HE hE
      obtain ⟨q, hq⟩ : ∃ q, q = escD s.data.toList := ⟨_, rfl⟩
      rw [← hq] at HR ⊢
      clear hq
      obtain ⟨q1, q2⟩ := q
      subst c1
      go_enter Tryz.func59, Tryz.ntmps59
      go_wp2_with (go_at_call 81; refine HR.out.mono ?_; rintro e w1 ⟨rfl, hB⟩)
      go_ret2
      exact ⟨rfl, by assumption⟩
    · have d1 : ¬ (b : Int) = 92 := by omega
      have hE : byteD s.data.toList = if 32 ≤ b ∧ b ≤ 126 then (b, 1) else (0, 0) := by rw [HE.out, if_neg c1]
      rw [hE]
      clear HE hE HR
      by_cases c2 : 32 ≤ b
      · by_cases c3 : b ≤ 126
        · rw [if_pos ⟨c2, c3⟩]
          have d2 : (32 : Int) ≤ b := by omega
          have d3 : (b : Int) ≤ 126 := by omega
          go_enter Tryz.func59, Tryz.ntmps59
          go_wp2
          go_ret2
          exact ⟨rfl, Below.refl _ _⟩
        · rw [if_neg (fun h => c3 h.2)]
          have d2 : (32 : Int) ≤ b := by omega
          have d3 : ¬ (b : Int) ≤ 126 := by omega
          go_enter Tryz.func59, Tryz.ntmps59
          go_wp2
          go_ret2
          exact ⟨rfl, Below.refl _ _⟩
      · rw [if_neg (fun h => c2 h.1)]
        have d2 : ¬ (32 : Int) ≤ b := by omega
        go_enter Tryz.func59, Tryz.ntmps59
        go_wp2
        go_ret2
        exact ⟨rfl, Below.refl _ _⟩

/-! ### how far a set goes -/
/-- Behind the first ] with no \ ahead; 0: there is none. -/
def setL : List UInt8 → Nat
  | [] => 0
  | c :: r => if c.toNat = 92 then (match r with
      | [] => 0
      | _ :: r' => if setL r' = 0 then 0 else setL r' + 2)
    else if c.toNat = 93 then 1 else if setL r = 0 then 0 else setL r + 1
def ofs (i n : Nat) : Nat := if n = 0 then 0 else i + n

theorem setL_cons (c : UInt8) (r : List UInt8) : setL (c :: r) = if c.toNat = 92 then (match r with
      | [] => 0
      | _ :: r' => if setL r' = 0 then 0 else setL r' + 2)
    else if c.toNat = 93 then 1 else if setL r = 0 then 0 else setL r + 1 := by
  conv => lhs; unfold setL
theorem setL_le : ∀ (n : Nat) (l : List UInt8), l.length ≤ n → setL l ≤ l.length := by
  intro n
  induction n with
  | zero => intro l h; have : l = [] := List.length_eq_zero_iff.1 (by omega); subst this; simp [setL]
  | succ n ih =>
    intro l h
    match l, h with
    | [], _ => simp [setL]
    | [c], _ =>
      rw [setL_cons]
      simp [setL]
      split
      · simp
      · split <;> simp
    | c :: d :: r, h =>
      have h1 := ih r (by simp at h; omega)
      have h2 := ih (d :: r) (by simp at h ⊢; omega)
      rw [setL_cons]
      simp only [List.length_cons] at *
      split
      · split <;> omega
      · split
        · omega
        · split <;> omega

theorem ofs_two (k n : Nat) : ofs k (if n = 0 then 0 else n + 2) = ofs (k + 2) n := by
  unfold ofs
  by_cases h : n = 0
  · simp [h]
  · simp [h]; omega
theorem ofs_one (k n : Nat) : ofs k (if n = 0 then 0 else n + 1) = ofs (k + 1) n := by
  unfold ofs
  by_cases h : n = 0
  · simp [h]
  · simp [h]; omega
set_option maxHeartbeats 1600000 in
theorem setLength_any (s : ByteArray) (hs : s.size ≤ 140737488351232) (w : World) : Calls Tryz.prog 60 #[.string s] w fun e w' => e = .returned (.int .i64 (setL s.data.toList : Nat)) ∧ w = w' := by
  go_enter Tryz.func60, Tryz.ntmps60
  go_wp2
  go_step3
  go_wp2
  go_step3
  go_wp2
  go_loop [3, 4] (fun n i => ∃ k : Nat, n = .int .i64 0 ∧ i = .int .i64 k ∧ k ≤ s.size + 1 ∧ Hid (setL s.data.toList = ofs k (setL (s.data.toList.drop k)))) (fun _ i => s.size + 1 - (intOf i).toNat)
  case atStart => exact ⟨0, rfl, rfl, Nat.zero_le _, Lib.hid (by rw [List.drop_zero]; unfold ofs; split <;> omega)⟩
  case round =>
    obtain ⟨k, rfl, rfl, hk, hS⟩ := hrel
    by_cases hlt : k < s.size
    · obtain ⟨b, hb⟩ : ∃ b, b = (s[k]'hlt).toNat := ⟨_, rfl⟩
      have hi : ∀ h, (s[k]'h).toNat = b := fun h => hb.symm
      have n1 : (k : Int) < (s.size : Int) := by omega
      have HD := Lib.hid (drop_at s k hlt)
      by_cases c1 : b = 92
      · have hN : Hid (setL s.data.toList = ofs (k + 2) (setL (s.data.toList.drop (k + 2)))) := by
          refine Lib.hid ?_
          rw [hS.out, HD.out, setL_cons, hi, if_pos c1, ← List.drop_drop (i := 1) (j := k + 1)]
          generalize s.data.toList.drop (k + 1) = r
          match r with
          | [] => simp [setL, ofs]
          | x :: r' =>
            exact ofs_two k (setL r')
        clear hb hS HD
        subst c1
        go_wp2
        go_round
        case rel => exact ⟨k + 2, rfl, by go_num, by omega, hN⟩
        case measure => simp [intOf]; omega
      · have d1 : ¬ (b : Int) = 92 := by omega
        by_cases c2 : b = 93
        · have hN : Hid (setL s.data.toList = k + 1) := by
            refine Lib.hid ?_
            rw [hS.out, HD.out, setL_cons, hi, if_neg c1, if_pos c2]
            rfl
          clear hb hS HD
          subst c2
          go_wp2
          go_ret
          exact ⟨by rw [hN.out]; rfl, rfl⟩
        · have d2 : ¬ (b : Int) = 93 := by omega
          have hN : Hid (setL s.data.toList = ofs (k + 1) (setL (s.data.toList.drop (k + 1)))) := by
            refine Lib.hid ?_
            rw [hS.out, HD.out, setL_cons, hi, if_neg c1, if_neg c2, ofs_one]
          clear hb hS HD
          go_wp2
          go_round
          case rel => exact ⟨k + 1, rfl, by go_num, by omega, hN⟩
          case measure => simp [intOf]; omega
    · have n1 : ¬ (k : Int) < (s.size : Int) := by omega
      have hN : Hid (setL s.data.toList = 0) := by
        refine Lib.hid ?_
        rw [hS.out, List.drop_eq_nil_of_le (by rw [← Lib.size_eq]; omega)]
        rfl
      clear hS
      go_wp2
      go_ret
      exact ⟨by rw [hN.out]; rfl, rfl⟩
end Go.Proofs.YtdodkbpagbblmaaGreatDoor
end
section
namespace Go.Proofs.YtdodkbpagbblmaaGreatDoor
open Go Go.RowKit

/-- A reader's block: its text, and how far it is. -/
abbrev Rdr (W : World) (B : Nat) (t : ByteArray) (k : Nat) : Prop := Blk W B 49 #[.string t, .int .i64 (k : Int)]

/-- What a reader gives up with. -/
def gone : List PanicEntry := [{ v := .iface 72 (.agg #[.int .i64 130]), recovered := false }]

theorem giveUp_any (p : Value) (w : World) : Calls Tryz.prog 44 #[p] w fun e w' => e = .panicked gone ∧ w = w' := by
  go_enter Tryz.func44, Tryz.ntmps44
  go_wp2
  exact ⟨rfl, rfl, rfl⟩

/-- The bytes from one place up to another. -/
def cutS (t : ByteArray) (k n : Nat) : ByteArray := t.extract k (k + n)

theorem clone_any (s : ByteArray) (w : World) (hlim : s.size ≤ 281474976710656) : Calls Tryz.prog 63 #[.string s] w fun e w' => e = .returned (.string s) ∧ Below w.heap.size w w' := by
  have H := Lib.hid (Tryz.stringslite_Clone s w hlim)
  go_enter Tryz.func63, Tryz.ntmps63
  go_wp2_with (go_at_call 86; refine H.out.mono ?_; rintro e w1 ⟨rfl, hB⟩)
  go_ret
  exact ⟨rfl, by assumption⟩

theorem grown_of_below' {w w' : World} (h : Below w.heap.size w w') (row : Option Nat) : w.grownBy w' row := ⟨h.os, h.tape, h.output, h.size, fun k hk _ => h.block k hk⟩

theorem grown_set {w W : World} {B : Nat} (h : w.grownBy W (some B)) (i : Nat) (v : Value) : w.grownBy (W.setCell ⟨B, i, none⟩ v) (some B) :=
  ⟨h.os, h.tape, h.output, by simpa using h.size, fun k hk hne => by rw [Below.heap_setCell W ⟨B, i, none⟩ v k (fun e => hne (by rw [e]))]; exact h.block k hk hne⟩

set_option maxHeartbeats 1600000 in
theorem take_any (B : Nat) (t : ByteArray) (k n : Nat) (ht : t.size ≤ 1048576) (hk : k + n ≤ t.size) (w : World) (hB : Rdr w B t k) :
    Calls Tryz.prog 43 #[.pointer (some ⟨B, 0, none⟩), .int .i64 n] w fun e w' => e = .returned (.string (cutS t k n)) ∧ w.grownBy w' (some B) ∧ Rdr w' B t (k + n) := by
  have n1 : (k : Int) + (n : Int) ≤ (t.size : Int) := by omega
  have n2 : (0 : Int) ≤ (k : Int) := by omega
  have n3 : (0 : Int) ≤ (n : Int) := by omega
  have n4 : (k : Int) ≤ (k : Int) + (n : Int) := by omega
  have hw1 : IntKind.i64.wrap ((k : Int) + (n : Int)) = (k : Int) + (n : Int) := IntWalk.i64_in _ (by omega)
  have hw2 : ((k : Int) + (n : Int)).toNat = k + n := by omega
  have HC := fun w' => Lib.hid (clone_any (cutS t k n) w' (by unfold cutS; rw [ByteArray.size_extract]; omega))
  unfold cutS at HC
  have HKeep : Hid (∀ W W', Below w.heap.size w W → Below W.heap.size W W' → Below w.heap.size w W' ∧ W'.cell? ⟨B, 0, none⟩ = some (.string t) ∧ W'.cell? ⟨B, 1, none⟩ = some (.int .i64 (k : Int))) := by
    refine Lib.hid fun W W' h1 h2 => ?_
    have h3 := h1.trans (h2.mono h1.size)
    have hb := hB.below h3 hB.lt
    exact ⟨h3, hb.cell 0, hb.cell 1⟩
  obtain ⟨_, c0, c1⟩ := HKeep.out w w (Below.refl _ _) (Below.refl _ _)
  have HB := Lib.hid hB
  have hlt := hB.lt
  clear hB
  go_enter Tryz.func43, Tryz.ntmps43
  go_wp2
  go_region_held3 (fun W => W.cell? ⟨B, 0, none⟩ = some (.string t) ∧ W.cell? ⟨B, 1, none⟩ = some (.int .i64 (k : Int))) (go_keep)
    (first | (go_at_call 63; (with_reducible refine (HC _).out.mono ?_); rintro e w' ⟨rfl, hB1⟩; obtain ⟨hBx, e0, e1⟩ := HKeep.out _ _ (by first | assumption | exact (Below.refl _ w).drew) hB1; clear hB1))
  all_goals
    have hb := HB.out.below hBx HB.out.lt
    have hb2 := hb.set 1 (.int .i64 ((k : Int) + (n : Int)))
    have hgr := grown_set (grown_of_below' hBx (some B)) 1 (.int .i64 ((k : Int) + (n : Int)))
    have HX := Lib.hid hb2
    have HY := Lib.hid hgr
    have fz := hb.frozen 1
    have hlt1 := hb.lt
    clear hb hb2 hgr hBx
    go_wp2
    go_ret
    exact ⟨rfl, HY.out, HX.out⟩
end Go.Proofs.YtdodkbpagbblmaaGreatDoor
end
section
namespace Go.Proofs.YtdodkbpagbblmaaGreatDoor
open Go Go.RowKit

/-! ### blanks and comments -/
/-- How far it is to the line's end, or the text's. -/
def lineL : List UInt8 → Nat
  | [] => 0
  | c :: r => if c.toNat = 10 then 0 else lineL r + 1
theorem lineL_le (l : List UInt8) : lineL l ≤ l.length := by
  induction l with
  | nil => simp [lineL]
  | cons c r ih => unfold lineL; split <;> simp <;> omega
theorem lineL_index (l : List UInt8) : (Lib.indexByte l 10 = -1 ∧ lineL l = l.length) ∨ (Lib.indexByte l 10 = (lineL l : Int) ∧ lineL l < l.length) := by
  induction l with
  | nil => exact .inl ⟨rfl, rfl⟩
  | cons c r ih =>
    unfold Lib.indexByte lineL
    by_cases h : c = 10
    · subst h; right; simp
    · have h2 : (c == 10) = false := by simpa using h
      have h3 : ¬ c.toNat = 10 := fun e => h (UInt8.toNat_inj.1 (by rw [e]; rfl))
      rw [h2, if_neg h3]
      simp only [Bool.false_eq_true, if_false, List.length_cons]
      rcases ih with ⟨h4, h5⟩ | ⟨h4, h5⟩
      · left; rw [h4]; exact ⟨by simp, by omega⟩
      · right; rw [h4]
        have : ((lineL r : Int) == -1) = false := by rw [beq_eq_false_iff_ne]; omega
        rw [this]
        exact ⟨by simp, by omega⟩

set_option maxHeartbeats 800000 in
theorem cut0_any (s : ByteArray) (hs : s.size ≤ 140737488351232) (w : World) :
    Calls Tryz.prog 78 #[.string s, .string ⟨#[10]⟩] w fun e w' => ∃ c d x, e = .returned (.tuple #[.string c, .string d, .bool x]) ∧ c.size = lineL s.data.toList ∧ ∃ n, w' = w.drewN n := by
  have HI := Lib.hid (Tryz.stringslite_Index_one s 10 w)
  rcases lineL_index s.data.toList with ⟨h1, h2⟩ | ⟨h1, h2⟩
  · rw [h1] at HI
    have H2 : Hid (s.size = lineL s.data.toList) := Lib.hid (by rw [h2, Lib.size_eq])
    clear h1 h2
    go_enter Tryz.func78, Tryz.ntmps78
    go_wp2_with (go_at_call 94; refine HI.out.mono ?_; rintro e w' ⟨rfl, rfl⟩)
    go_ret3
    exact ⟨s, _, _, rfl, H2.out, 0, rfl⟩
  · rw [h1] at HI
    rw [← Lib.size_eq] at h2
    obtain ⟨q, hq⟩ : ∃ q, q = lineL s.data.toList := ⟨_, rfl⟩
    rw [← hq] at HI h2 ⊢
    clear h1 hq
    have n1 : (q : Int) + 1 ≤ (s.size : Int) := by omega
    have n2 : (q : Int) ≤ (s.size : Int) := by omega
    have n3 : (0 : Int) ≤ (q : Int) := by omega
    have n4 : (0 : Int) ≤ (q : Int) + 1 := by omega
    have hw1 : IntKind.i64.wrap ((q : Int) + 1) = (q : Int) + 1 := IntWalk.i64_in _ (by omega)
    have hsz : Hid ((s.extract 0 q).size = q) := Lib.hid (by rw [ByteArray.size_extract]; omega)
    go_enter Tryz.func78, Tryz.ntmps78
    go_wp2_with (go_at_call 94; refine HI.out.mono ?_; rintro e w' ⟨rfl, rfl⟩)
    go_quiet (fail)
    go_wp2
    go_ret3
    exact ⟨_, _, _, rfl, hsz.out, _, rfl⟩

set_option maxHeartbeats 800000 in
theorem cut_any (s : ByteArray) (hs : s.size ≤ 140737488351232) (w : World) :
    Calls Tryz.prog 57 #[.string s, .string ⟨#[10]⟩] w fun e w' => ∃ c d x, e = .returned (.tuple #[.string c, .string d, .bool x]) ∧ c.size = lineL s.data.toList ∧ ∃ n, w' = w.drewN n := by
  have HI := Lib.hid (cut0_any s hs w)
  go_enter Tryz.func57, Tryz.ntmps57
  go_wp2_with (go_at_call 78; refine HI.out.mono ?_; rintro e w' ⟨c, d, x, rfl, hc, n, rfl⟩; have HCc := Lib.hid hc; clear hc)
  go_ret3
  exact ⟨_, _, _, rfl, HCc.out, _, rfl⟩
end Go.Proofs.YtdodkbpagbblmaaGreatDoor
end
section
namespace Go.Proofs.YtdodkbpagbblmaaGreatDoor
open Go Go.RowKit

/-- How many bytes of blanks and comments a text begins with. -/
def skipF : Nat → List UInt8 → Nat
  | 0, _ => 0
  | f + 1, l => match l with
    | [] => 0
    | c :: r => if blkB c.toNat then skipF f r + 1 else if Lib.hasPrefix (c :: r) [47, 47] then lineL (c :: r) + skipF f ((c :: r).drop (lineL (c :: r))) else 0
def skipL (l : List UInt8) : Nat := skipF (l.length + 1) l

theorem lineL_two (c : UInt8) (r : List UInt8) (h : Lib.hasPrefix (c :: r) [47, 47] = true) : 2 ≤ lineL (c :: r) := by
  unfold Lib.hasPrefix at h
  match r with
  | [] => simp [List.isPrefixOf] at h
  | d :: r =>
    simp [List.isPrefixOf] at h
    obtain ⟨h1, h2⟩ := h
    subst h1; subst h2
    simp [lineL]

theorem skipF_more : ∀ (n : Nat) (l : List UInt8), l.length ≤ n → ∀ f, l.length + 1 ≤ f → skipF f l = skipF (l.length + 1) l := by
  intro n
  induction n with
  | zero =>
    intro l hl f hf
    have : l = [] := List.length_eq_zero_iff.1 (by omega)
    subst this
    obtain ⟨g, rfl⟩ : ∃ g, f = g + 1 := ⟨f - 1, by simp at hf; omega⟩
    rfl
  | succ n ih =>
    intro l hl f hf
    obtain ⟨g, rfl⟩ : ∃ g, f = g + 1 := ⟨f - 1, by omega⟩
    match l, hl, hf with
    | [], _, _ => rfl
    | c :: r, hl, hf =>
      simp only [List.length_cons] at hl hf
      unfold skipF
      simp only [List.length_cons]
      split
      · rw [ih r (by omega) g (by omega), ih r (by omega) (r.length + 1) (by omega)]
      · split
        · rename_i h
          have h2 := lineL_two c r h
          have h3 := lineL_le (c :: r)
          rw [List.length_cons] at h3
          have hd : ((c :: r).drop (lineL (c :: r))).length + 1 ≤ r.length := by
            rw [List.length_drop, List.length_cons]; omega
          rw [ih _ (by omega) g (by omega), ih _ (by omega) (r.length + 1) (by omega)]
        · rfl
theorem skipL_nil : skipL [] = 0 := rfl
theorem skipL_blank (c : UInt8) (r : List UInt8) (h : blkB c.toNat = true) : skipL (c :: r) = skipL r + 1 := by
  unfold skipL
  conv => lhs; unfold skipF
  simp only [h, if_true, List.length_cons]
theorem skipL_comment (c : UInt8) (r : List UInt8) (h : blkB c.toNat = false) (hp : Lib.hasPrefix (c :: r) [47, 47] = true) : skipL (c :: r) = lineL (c :: r) + skipL ((c :: r).drop (lineL (c :: r))) := by
  have h2 := lineL_two c r hp
  unfold skipL
  conv => lhs; unfold skipF
  simp only [h, hp, if_true, List.length_cons, Bool.false_eq_true, if_false]
  rw [skipF_more r.length _ (by rw [List.length_drop, List.length_cons]; omega) (r.length + 1) (by rw [List.length_drop, List.length_cons]; omega)]
theorem skipL_end (c : UInt8) (r : List UInt8) (h : blkB c.toNat = false) (hp : Lib.hasPrefix (c :: r) [47, 47] = false) : skipL (c :: r) = 0 := by
  unfold skipL skipF
  simp [h, hp]
theorem skipF_le : ∀ (f : Nat) (l : List UInt8), skipF f l ≤ l.length := by
  intro f
  induction f with
  | zero => intro l; simp [skipF]
  | succ f ih =>
    intro l
    match l with
    | [] => simp [skipF]
    | c :: r =>
      unfold skipF
      simp only
      split
      · have := ih r; simp; omega
      · split
        · have h1 := ih ((c :: r).drop (lineL (c :: r)))
          have h2 := lineL_le (c :: r)
          rw [List.length_drop] at h1
          omega
        · simp
theorem skipL_le (l : List UInt8) : skipL l ≤ l.length := skipF_le _ l

theorem drop_len (t : ByteArray) (k : Nat) : (t.data.toList.drop k).length = t.size - k := by rw [List.length_drop, ← Lib.size_eq]

theorem grown_drew {w W : World} {r : Option Nat} (h : w.grownBy W r) : w.grownBy W.drew r := ⟨h.os, h.tape, h.output, h.size, h.block⟩
theorem grown_drewN {w W : World} {r : Option Nat} (h : w.grownBy W r) (n : Nat) : w.grownBy (W.drewN n) r := ⟨h.os, h.tape, h.output, h.size, h.block⟩

set_option maxRecDepth 100000 in
set_option maxHeartbeats 8000000 in
theorem passBlanks_any (B : Nat) (t : ByteArray) (k : Nat) (ht : t.size ≤ 1048576) (hk : k ≤ t.size) (w : World) (hB : Rdr w B t k) :
    Calls Tryz.prog 37 #[.pointer (some ⟨B, 0, none⟩)] w fun e w' => e = .returned (.tuple #[]) ∧ w.grownBy w' (some B) ∧ Rdr w' B t (k + skipL (t.data.toList.drop k)) := by
  have HB := Lib.hid hB
  have hg0 : Hid (w.grownBy w (some B)) := grown_of_below' (Below.refl _ _) _
  clear hB
  go_enter Tryz.func37, Tryz.ntmps37
  go_wp2
  go_loopg [2, 3, 4, 5] (t.size - k) (fun n a b c d wr => ∃ m : Nat, m ≤ t.size ∧ n = t.size - m ∧ Hid (k + skipL (t.data.toList.drop k) = m + skipL (t.data.toList.drop m)) ∧ Hid (Rdr wr B t m) ∧ Hid (w.grownBy wr (some B)))
  case atStart => exact ⟨k, hk, rfl, Lib.hid rfl, HB, hg0⟩
  case round =>
    obtain ⟨m, hm, rfl, hS, hR, hG⟩ := hrel
    have c0 : wr.cell? ⟨B, 0, none⟩ = some (.string t) := hR.out.cell 0
    have c1 : wr.cell? ⟨B, 1, none⟩ = some (.int .i64 (m : Int)) := hR.out.cell 1
    have fz := hR.out.frozen 1
    have hlt := hR.out.lt
    by_cases hmt : m < t.size
    · have n1 : (m : Int) < (t.size : Int) := by omega
      have n2 : (0 : Int) ≤ (m : Int) := by omega
      have n3 : (m : Int) ≤ (t.size : Int) := by omega
      have hsz : (t.extract m t.size).size = t.size - m := by rw [ByteArray.size_extract]; omega
      have hls : (t.extract m t.size).data.toList = t.data.toList.drop m := extract_drop t m
      obtain ⟨b, hb⟩ : ∃ b, b = (t[m]'hmt).toNat := ⟨_, rfl⟩
      have hdr := drop_at t m hmt
      have hi : ∀ h, ((t.extract m t.size)[0]'h).toNat = b := by
        intro h
        rw [hb]
        show ((t.extract m t.size).data[0]'_).toNat = _
        rw [← Array.getElem_toList]
        simp only [hls, hdr, List.getElem_cons_zero]
      have HBl := isBlank_any b
      have HP := Tryz.strings_HasPrefix (t.extract m t.size) ⟨#[47, 47]⟩
      rw [hls, hdr] at HP
      have HCu := cut_any (t.extract m t.size) (by omega)
      rw [hls] at HCu
      have hll := lineL_le (t.data.toList.drop m)
      rw [drop_len] at hll
      rw [hdr] at hS
      have hpos : (0 : Int) < ((t.size - m : Nat) : Int) := by omega
      have HBl := fun w' => Lib.hid (HBl w')
      have HCu := fun w' => Lib.hid (HCu w')
      have hp2 : (⟨#[47, 47]⟩ : ByteArray).data.toList = [47, 47] := rfl
      rw [hp2] at HP
      have HP := fun w' => Lib.hid (HP w')
      have Hls := Lib.hid hls
      have Hb := Lib.hid hb
      have Hdr := Lib.hid hdr
      clear hls hb hdr hp2
      cases hbl : blkB b with
      | true =>
        rw [hbl] at HBl
        have hN : Hid (k + skipL (t.data.toList.drop k) = m + 1 + skipL (t.data.toList.drop (m + 1))) := by
          refine Lib.hid ?_
          rw [hS.out, skipL_blank _ _ (by rw [← Hb.out]; exact hbl)]
          omega
        have hR1 : Hid (Rdr (wr.setCell ⟨B, 1, none⟩ (.int .i64 ((m : Int) + 1))) B t (m + 1)) := Lib.hid (hR.out.set 1 (.int .i64 ((m : Int) + 1)))
        have hG1 := Lib.hid (grown_set hG.out 1 (.int .i64 ((m : Int) + 1)))
        clear hbl hS Hls Hb Hdr hR hG HP HCu
        go_wp2
        go_region
        go_wp2
        go_region
        go_wp2_with (go_at_call 55; refine (HBl _).out.mono ?_; rintro e w' ⟨rfl, rfl⟩)
        go_roundg (t.size - (m + 1))
        case measure => omega
        case rel => exact ⟨m + 1, by omega, rfl, hN, hR1, Lib.hid (grown_drew (grown_drew hG1.out))⟩
      | false =>
        rw [hbl] at HBl
        have hbl2 : Hid (blkB (t[m]'hmt).toNat = false) := Lib.hid (by rw [← Hb.out]; exact hbl)
        cases hpp : Lib.hasPrefix (t[m] :: t.data.toList.drop (m + 1)) [47, 47] with
        | true =>
          rw [hpp] at HP
          obtain ⟨q, hq⟩ : ∃ q, q = lineL (t.data.toList.drop m) := ⟨_, rfl⟩
          have hN : Hid (k + skipL (t.data.toList.drop k) = m + q + skipL (t.data.toList.drop (m + q))) := by
            refine Lib.hid ?_
            rw [hS.out, skipL_comment _ _ hbl2.out hpp, ← Hdr.out, ← hq, List.drop_drop]
            omega
          have hq2 : 2 ≤ q := by
            have := lineL_two _ _ hpp
            rw [← Hdr.out, ← hq] at this
            exact this
          rw [← hq] at HCu hll
          have hR1 : Hid (Rdr (wr.setCell ⟨B, 1, none⟩ (.int .i64 ((m : Int) + q))) B t (m + q)) := Lib.hid (hR.out.set 1 (.int .i64 ((m : Int) + q)))
          clear hbl hbl2 hpp hq hS Hls Hb Hdr hR
          go_wp2
          go_region
          go_wp2
          go_region
          go_wp2_with (first | (go_at_call 55; refine (HBl _).out.mono ?_; rintro e w' ⟨rfl, rfl⟩) | (go_at_call 56; refine (HP _).out.mono ?_; rintro e w' ⟨rfl, rfl⟩))
          refine (HCu _).out.mono ?_
          rintro e w1 ⟨cs, cd, cx, rfl, hcs, nd, rfl⟩
          have hcs2 : cs.size = q := hcs
          have hcI : (cs.size : Int) = (q : Int) := by omega
          clear HCu HP HBl hcs
          go_wp2
          go_roundg (t.size - (m + q))
          case measure => omega
          case rel =>
            refine ⟨m + q, by omega, rfl, hN, ?_, Lib.hid ?_⟩
            · exact Lib.hid (show Rdr _ B t (m + q) from hR1.out)
            · exact grown_set (grown_drewN hG.out _) 1 _
        | false =>
          rw [hpp] at HP
          have hN : Hid (k + skipL (t.data.toList.drop k) = m) := by
            refine Lib.hid ?_
            rw [hS.out, skipL_end _ _ hbl2.out hpp]
            rfl
          have HX : Hid (Rdr wr B t (k + skipL (t.data.toList.drop k))) := Lib.hid (by rw [hN.out]; exact hR.out)
          have hG2 := Lib.hid (grown_drew (grown_drew hG.out))
          clear hbl hbl2 hpp hS Hls Hb Hdr hR hG hN
          go_wp2
          go_region
          go_wp2
          go_region
          go_wp2_with (first | (go_at_call 55; refine (HBl _).out.mono ?_; rintro e w' ⟨rfl, rfl⟩) | (go_at_call 56; refine (HP _).out.mono ?_; rintro e w' ⟨rfl, rfl⟩))
          refine bodyPost_ret (results_none rfl _ _ _) rfl ?_
          exact ⟨rfl, hG2.out, HX.out⟩
    · have n1 : ¬ (m : Int) < (t.size : Int) := by omega
      have hm2 : m = t.size := by omega
      have hN : Hid (k + skipL (t.data.toList.drop k) = m) := by
        refine Lib.hid ?_
        rw [hS.out, List.drop_eq_nil_of_le (by rw [← Lib.size_eq]; omega), skipL_nil]
        rfl
      have HX : Hid (Rdr wr B t (k + skipL (t.data.toList.drop k))) := Lib.hid (by rw [hN.out]; exact hR.out)
      clear hm2
      have hG2 : Hid (w.grownBy wr.drew (some B)) := Lib.hid (grown_drew hG.out)
      have HX2 : Hid (Rdr wr.drew B t (k + skipL (t.data.toList.drop k))) := HX
      clear hG HX hR hN hS
      go_wp2
      go_region
      go_wp2
      go_end0
      exact ⟨rfl, hG2.out, HX2.out⟩
end Go.Proofs.YtdodkbpagbblmaaGreatDoor
end
section
namespace Go.Proofs.YtdodkbpagbblmaaGreatDoor
open Go Go.RowKit

theorem rest_list (t : ByteArray) (k n : Nat) : ((t.extract k t.size).extract 0 n).data.toList = (t.data.toList.drop k).take n := by
  rw [ByteArray.data_extract, Array.toList_extract, List.extract_eq_take_drop, List.drop_zero, Nat.sub_zero, extract_drop]

set_option maxRecDepth 100000 in
set_option maxHeartbeats 8000000 in
/-- A name is read, or given up. -/
theorem readName_any (B : Nat) (t : ByteArray) (k : Nat) (ht : t.size ≤ 1048576) (hk : k ≤ t.size) (w : World) (hB : Rdr w B t k) (v : Bool) (hv : nameB ((t.data.toList.drop k).take (runL (t.data.toList.drop k))) = v) :
    Calls Tryz.prog 38 #[.pointer (some ⟨B, 0, none⟩)] w fun e w' => w.grownBy w' (some B) ∧ (if v then e = .returned (.string (cutS t k (runL (t.data.toList.drop k)))) ∧ Rdr w' B t (k + runL (t.data.toList.drop k)) else e = .panicked gone ∧ Rdr w' B t k) := by
  have c0 : w.cell? ⟨B, 0, none⟩ = some (.string t) := hB.cell 0
  have c1 : w.cell? ⟨B, 1, none⟩ = some (.int .i64 (k : Int)) := hB.cell 1
  have n2 : (0 : Int) ≤ (k : Int) := by omega
  have n3 : (k : Int) ≤ (t.size : Int) := by omega
  have hsz : (t.extract k t.size).size = t.size - k := by rw [ByteArray.size_extract]; omega
  have hls : (t.extract k t.size).data.toList = t.data.toList.drop k := extract_drop t k
  have hrl := runL_le (t.data.toList.drop k)
  rw [drop_len] at hrl
  have HR := runLength_any (t.extract k t.size) (by omega)
  rw [hls] at HR
  have HN := name_any ((t.extract k t.size).extract 0 (runL (t.data.toList.drop k))) (by rw [ByteArray.size_extract]; omega)
  rw [rest_list, hv] at HN
  have HT := fun w' (h : Rdr w' B t k) => take_any B t k (runL (t.data.toList.drop k)) ht (by omega) w' h
  obtain ⟨q, hq⟩ : ∃ q, q = runL (t.data.toList.drop k) := ⟨_, rfl⟩
  rw [← hq] at hrl HR HN HT ⊢
  have HR := fun w' => Lib.hid (HR w')
  have HN := fun w' => Lib.hid (HN w')
  have HT := Lib.hid HT
  have HB := Lib.hid hB
  have n4 : (q : Int) ≤ ((t.size - k : Nat) : Int) := by omega
  have n5 : (0 : Int) ≤ (q : Int) := by omega
  clear hq hls hv hB
  cases v with
  | true =>
    simp only [if_true]
    go_enter Tryz.func38, Tryz.ntmps38
    go_wp2
    go_region
    go_wp2_with (first | (go_at_call 34; refine (HR _).out.mono ?_; rintro e w' ⟨rfl, rfl⟩) | (go_at_call 19; refine (HN _).out.mono ?_; rintro e w' ⟨rfl, rfl⟩))
    have HB2 : Rdr w.drew B t k := HB.out
    refine (HT.out w.drew HB2).mono ?_
    rintro e w1 ⟨rfl, hg, hR⟩
    have HG : Hid (w.grownBy w1 (some B)) := Lib.hid ⟨hg.os, hg.tape, hg.output, hg.size, hg.block⟩
    have HR1 := Lib.hid hR
    clear hg hR HT
    go_wp2
    go_ret
    exact ⟨HG.out, rfl, HR1.out⟩
  | false =>
    simp only [Bool.false_eq_true, if_false]
    go_enter Tryz.func38, Tryz.ntmps38
    go_wp2
    go_region
    go_wp2_with (first | (go_at_call 34; refine (HR _).out.mono ?_; rintro e w' ⟨rfl, rfl⟩) | (go_at_call 19; refine (HN _).out.mono ?_; rintro e w' ⟨rfl, rfl⟩) | (go_at_call 44; refine (giveUp_any _ _).mono ?_; rintro e w' ⟨rfl, rfl⟩))
    have HB2 : Rdr w.drew B t k := HB.out
    exact ⟨rfl, grown_drew (grown_of_below' (Below.refl _ _) _), rfl, HB2⟩
end Go.Proofs.YtdodkbpagbblmaaGreatDoor
end
