import Derived.Test.YtdodkbpagbblmaaDoorT2
import Derived.Test.YtdodkbpagbblmaaDoorK
namespace Go.Proofs.YtdodkbpagbblmaaDoor
open Go Go.RowKit Go.Shelf

theorem ranges_any (s : BS) (w : World) (hG : Glob w) :
    Calls Tryd.prog 48 #[vset s] w fun e W' => ∃ v, e = .returned v ∧ W'.ownsRow w.heap.size 88 2 v (rngs (bytesL s)).length (cellsR (rngs (bytesL s))) ∧ (v = .slice none 0 0 ↔ rngs (bytesL s) = []) ∧ Below w.heap.size w W' :=
  callsIn_wide.1 (ranges_in 6 (Nat.le_refl _) s w hG)

/-- The text of a set, without what is put ahead. -/
def rangesT (rs : List (Nat × Nat)) : List Nat := rs.flatMap rangeT
/-- A set's text. -/
def textS (s : BS) : List Nat := if 128 < cnt s then [91, 94] ++ rangesT (rngs (bytesL (~~~s))) ++ [93] else [91] ++ rangesT (rngs (bytesL s)) ++ [93]

def bytesStr (l : List Nat) : ByteArray := strOfNums (l.map fun n : Nat => (n : Int))

theorem rangesT_snoc (rs : List (Nat × Nat)) (r : Nat × Nat) : rangesT (rs ++ [r]) = rangesT rs ++ rangeT r := by simp [rangesT]
theorem rangeT_len (r : Nat × Nat) : (rangeT r).length ≤ 9 := by
  have h1 := byteT_len r.1
  have h2 := byteT_len r.2
  unfold rangeT
  split
  · omega
  · split
    · simp; omega
    · simp; omega
theorem rangesT_len (rs : List (Nat × Nat)) : (rangesT rs).length ≤ 9 * rs.length := by
  induction rs with
  | nil => simp [rangesT]
  | cons r rs ih =>
    have := rangeT_len r
    simp [rangesT] at ih ⊢
    omega

theorem cellsR_at (rs : List (Nat × Nat)) : ∀ (i : Nat) (x : Nat × Nat), rs[i]? = some x → (cellsR rs)[i * 2]? = some (.int .u8 x.1) ∧ (cellsR rs)[i * 2 + 1]? = some (.int .u8 x.2) := by
  induction rs with
  | nil => intro i x hx; simp at hx
  | cons r rs ih =>
    intro i x hx
    have hc : cellsR (r :: rs) = .int .u8 r.1 :: .int .u8 r.2 :: cellsR rs := by simp [cellsR]
    rw [hc]
    cases i with
    | zero => simp at hx; subst hx; exact ⟨rfl, rfl⟩
    | succ i =>
      have h := ih i x (by simpa using hx)
      have e1 : (i + 1) * 2 = i * 2 + 1 + 1 := by omega
      rw [e1]
      simpa using h

/-- Ranges as they lie behind a slice that owns them. -/
theorem owned_rowR {w : World} {n₀ : Nat} {v : Value} {rs : List (Nat × Nat)} (h : w.ownsRow n₀ 88 2 v rs.length (cellsR rs)) : ∃ a cap, v = .slice a rs.length cap ∧ RowR w a rs := by
  rcases h.2 with ⟨rfl, h0⟩ | ⟨g, cap, cur, rfl, _⟩
  · have : rs = [] := List.length_eq_zero_iff.1 h0
    subst this
    exact ⟨none, 0, rfl, fun i x hx => by simp at hx⟩
  · refine ⟨_, cap, rfl, fun i x hx => ?_⟩
    have hi := (List.getElem?_eq_some_iff.1 hx).1
    have hc := cellsR_at rs i x hx
    refine ⟨g, 0, rfl, ?_, ?_⟩
    · rw [Nat.zero_add, h.cellAt (i * 2) (by omega)]; exact hc.1
    · rw [Nat.zero_add, h.cellAt (i * 2 + 1) (by omega)]; exact hc.2

theorem own_below {w w' : World} {base : Nat} {e : TypeId} {size : Nat} {v : Value} {n : Nat} {xs : List Value} {N : Nat} (h : w.ownsRow base e size v n xs) (hB : Below N w w') (hN : w.heap.size ≤ N) : w'.ownsRow base e size v n xs := by
  refine ⟨h.1, ?_⟩
  rcases h.2 with h | ⟨g, cap, cur, h1, h2, h3, h4⟩
  · exact .inl h
  · exact .inr ⟨g, cap, cur, h1, h2, (hB.block g (Nat.lt_of_lt_of_le (Array.getElem?_eq_some_iff.1 h3).1 hN)).trans h3, h4⟩

theorem own_others {w w' : World} {base : Nat} {e : TypeId} {size : Nat} {v : Value} {n : Nat} {xs : List Value} (h : w.ownsRow base e size v n xs) (he : e ≠ 5) (hk : Lib.OthersKept 5 none w w') : w'.ownsRow base e size v n xs := by
  refine ⟨h.1, ?_⟩
  rcases h.2 with h | ⟨g, cap, cur, h1, h2, h3, h4⟩
  · exact .inl h
  · exact .inr ⟨g, cap, cur, h1, h2, hk g _ h3 (by simp) (fun c fz e' => by cases e'; exact he rfl), h4⟩

theorem conv_own {n₀ : Nat} (g c : Nat) (w : World) (l : List Nat) (n : Nat) (hn : l.length = n) (ho : w.ownsRow n₀ 5 1 (.slice (some ⟨g, 0, none⟩) n c) n (l.map byteV)) :
    (convert 22 9 (.slice (some ⟨g, 0, none⟩) n c)).run Tryd.prog w = .ok (.string (bytesStr l)) w := by
  refine run_convert_bytes_arg w 22 5 Tryd.underlying22 Tryd.underlying5 g 0 n c (l.map fun n : Nat => (n : Int)) (by simpa using hn) ?_ 9 Tryd.underlying9
  intro i hi
  rw [Nat.zero_add, ho.cellAt i (by omega)]
  simp [byteV, List.getD, show i < l.length by omega]

set_option maxRecDepth 100000 in
set_option maxHeartbeats 4000000 in
theorem text_any (s : BS) (w : World) (hG : Glob w) :
    Calls Tryd.prog 32 #[vset s] w fun e w' => e = .returned (.string (bytesStr (textS s))) ∧ Below w.heap.size w w' := by
  obtain ⟨i0, hi, hz0, hz1, hz2⟩ := info_parts Tryd.info5
  have HG := Lib.hid hG
  clear hG
  have HC := fun w' => Lib.hid (count_any s w')
  have HT : Hid (textS s = if 128 < cnt s then [91, 94] ++ rangesT (rngs (bytesL (~~~s))) ++ [93] else [91] ++ rangesT (rngs (bytesL s)) ++ [93]) := rfl
  generalize cnt s = N at HC HT
  generalize textS s = TX at HT ⊢
  unfold vset
  go_enter Tryd.func32, Tryd.ntmps32
  go_wp2_with fail
  refine (HC _).out.mono ?_
  rintro e w1 ⟨rfl, hB1⟩
  have hA0 := (Blk.new w 36 (cset s)).alloc (.cells #[.int .u8 91] 5)
  have hA1 := Lib.hid (hA0.below hB1 (by simp; omega))
  have hO0 := World.ownsRow_lit (base := w.heap.size) (e := 5) (size := 1) (w.alloc (.cells (cset s) 36)) #[.int .u8 91] 1 (by simp) (by decide) rfl
  rw [World.size_alloc] at hO0
  have hO1 := Lib.hid (own_below hO0 hB1 (Nat.le_refl _))
  have HB1 : Hid (Below w.heap.size w w1) := Lib.hid ((((Below.refl _ w).alloc (Nat.le_refl _) (.cells (cset s) 36)).alloc (by simp) (.cells #[.int .u8 91] 5)).trans (hB1.mono (by simp; omega)))
  clear hA0 hO0 hB1 HC
  have hsz1 : w.heap.size ≤ w1.heap.size := HB1.out.size
  by_cases hN : 128 < N
  · have hN' : (128 : Int) < N := by omega
    have HTX : Hid (TX = [91, 94] ++ rangesT (rngs (bytesL (~~~s))) ++ [93]) := Lib.hid (by rw [HT.out, if_pos hN])
    clear HT
    have HNT := fun w' => Lib.hid (not_any s w')
    obtain ⟨ns, hns⟩ : ∃ ns, ns = ~~~s := ⟨_, rfl⟩
    rw [← hns] at HTX HNT
    clear hns
    go_wp2_with (first
      | (at_builtin; refine wpList_append_own _ rfl _ _ 22 rfl w.heap.size 5 i0 (.int .u8 0) 1 1 Tryd.underlying22 hi hz0 hz1 hz2 rfl (by decide) _ _ _ rfl (hO1.out.alloc _) ⟨w1.heap.size, 0, none⟩ 1 1 [.int .u8 94] rfl rfl (cell_one_new _ _ _) (by simp [Value.oneCell']) (by unfold maxLen; omega) (by omega) (by simp; omega) ?_; intro v2 w2 hown2 hgrow _; have hf2 := own_fin (hO1.out.alloc _) ((Lib.OthersKept.refl 5 none w1).alloc _) ((Below.refl w.heap.size w1).alloc hsz1 _) hsz1 hgrow; have hb2 := blk_others hA1.out (by decide) hf2.1; have c0 : w2.cell? ⟨w.heap.size, 0, none⟩ = some (.int .u64 (wdI s 0)) := hb2.cell 0; have c1 : w2.cell? ⟨w.heap.size, 1, none⟩ = some (.int .u64 (wdI s 1)) := hb2.cell 1; have c2 : w2.cell? ⟨w.heap.size, 2, none⟩ = some (.int .u64 (wdI s 2)) := hb2.cell 2; have c3 : w2.cell? ⟨w.heap.size, 3, none⟩ = some (.int .u64 (wdI s 3)) := hb2.cell 3)
      | fail)
    refine (HNT _).out.mono ?_
    rintro e w5 ⟨rfl, hB5⟩
    have hA5 := hb2.below hB5 hb2.lt
    have hO5 := own_below hown2 hB5 (Nat.le_refl _)
    have HB5 := Lib.hid ((HB1.out.trans hf2.2).trans (hB5.mono (Nat.le_trans hsz1 hf2.2.size)))
    have z0 : w5.cell? ⟨w.heap.size, 0, none⟩ = some (.int .u64 (wdI s 0)) := hA5.cell 0
    have z1 : w5.cell? ⟨w.heap.size, 1, none⟩ = some (.int .u64 (wdI s 1)) := hA5.cell 1
    have z2 : w5.cell? ⟨w.heap.size, 2, none⟩ = some (.int .u64 (wdI s 2)) := hA5.cell 2
    have z3 : w5.cell? ⟨w.heap.size, 3, none⟩ = some (.int .u64 (wdI s 3)) := hA5.cell 3
    have fz : ∀ i, w5.frozen? ⟨w.heap.size, i, none⟩ = false := hA5.frozen
    have hA6 := Blk.set4 hA5 (.int .u64 (wdI ns 0)) (.int .u64 (wdI ns 1)) (.int .u64 (wdI ns 2)) (.int .u64 (wdI ns 3))
    have hO6 : ((((w5.setCell ⟨w.heap.size, 0, none⟩ (.int .u64 (wdI ns 0))).setCell ⟨w.heap.size, 1, none⟩ (.int .u64 (wdI ns 1))).setCell ⟨w.heap.size, 2, none⟩ (.int .u64 (wdI ns 2))).setCell ⟨w.heap.size, 3, none⟩ (.int .u64 (wdI ns 3))).ownsRow w.heap.size 5 1 v2 ([91, 94] : List Nat).length (([91, 94] : List Nat).map byteV) := by
      have hne : v2.ownBlock ≠ some w.heap.size := by
        rcases hO5.2 with ⟨rfl, _⟩ | ⟨g, cap, cur, rfl, _, hg, _⟩
        · simp [Value.ownBlock]
        · intro e
          obtain rfl : g = w.heap.size := by simpa [Value.ownBlock] using e
          rw [show w5.heap[w.heap.size]? = _ from hA5] at hg
          cases hg
      exact ownsRow_setCell_other (ownsRow_setCell_other (ownsRow_setCell_other (ownsRow_setCell_other hO5 hne _) hne _) hne _) hne _
    have hB6 := below_set4 (B := w.heap.size) HB5.out (Nat.le_refl _) (.int .u64 (wdI ns 0)) (.int .u64 (wdI ns 1)) (.int .u64 (wdI ns 2)) (.int .u64 (wdI ns 3))
    have HA6 := Lib.hid hA6
    have HO6 := Lib.hid hO6
    have HB6 := Lib.hid hB6
    clear hA5 hO5 hB5 hb2 hf2 hown2 hgrow hA6 hO6 hB6 c0 c1 c2 c3 hA1 hO1 HNT HB5 HB1
    unfold vset
    obtain ⟨w6, hw6⟩ : ∃ w6, w6 = (((w5.setCell ⟨w.heap.size, 0, none⟩ (.int .u64 (wdI ns 0))).setCell ⟨w.heap.size, 1, none⟩ (.int .u64 (wdI ns 1))).setCell ⟨w.heap.size, 2, none⟩ (.int .u64 (wdI ns 2))).setCell ⟨w.heap.size, 3, none⟩ (.int .u64 (wdI ns 3)) := ⟨_, rfl⟩
    rw [← hw6] at HA6 HO6 HB6
    have HW6 := Lib.hid hw6
    clear hw6
    have c0 : w6.cell? ⟨w.heap.size, 0, none⟩ = some (.int .u64 (wdI ns 0)) := HA6.out.cell 0
    have c1 : w6.cell? ⟨w.heap.size, 1, none⟩ = some (.int .u64 (wdI ns 1)) := HA6.out.cell 1
    have c2 : w6.cell? ⟨w.heap.size, 2, none⟩ = some (.int .u64 (wdI ns 2)) := HA6.out.cell 2
    have c3 : w6.cell? ⟨w.heap.size, 3, none⟩ = some (.int .u64 (wdI ns 3)) := HA6.out.cell 3
    have HR := Lib.hid (ranges_any ns w6 (HG.out.below (Nat.le_refl _) HB6.out))
    have hrl := rngs_length (bytesL ns)
    have hbl := length_bytesL ns
    have hsm := rngs_small (bytesL ns) (fun x hx => ((mem_bytesL ns x).1 hx).1)
    obtain ⟨rs, hrs⟩ : ∃ rs, rs = rngs (bytesL ns) := ⟨_, rfl⟩
    rw [← hrs] at HR HTX hrl hsm
    have hrl2 : rs.length ≤ 256 := by omega
    clear hrs hrl hbl
    go_wp2_with fail
    rw [← HW6.out]
    refine HR.out.mono ?_
    rintro e w2 ⟨vr, rfl, hown2, _, hB2⟩
    obtain ⟨ar, cr, rfl, _⟩ := owned_rowR hown2
    have hOR := Lib.hid hown2
    have hOL := Lib.hid (own_below HO6.out hB2 (Nat.le_refl _))
    have HB2 := Lib.hid (HB6.out.trans (hB2.mono HB6.out.size))
    clear hown2 hB2 c0 c1 c2 c3 HR HA6 HO6
    go_wp2
    go_loopw [3, 18] (fun q p wr => ∃ (k : Nat), p = .int .i64 k ∧ k ≤ rs.length ∧ Hid (wr.ownsRow w.heap.size 5 1 q ([91, 94] ++ rangesT (rs.take k)).length (([91, 94] ++ rangesT (rs.take k)).map byteV)) ∧ Hid (wr.ownsRow w6.heap.size 88 2 (.slice ar rs.length cr) rs.length (cellsR rs)) ∧ Hid (Below w.heap.size w wr))
      (fun _ p _ => rs.length - (intOf p).toNat)
    case atStart => exact ⟨0, rfl, Nat.zero_le _, by simpa [rangesT, byteV] using hOL, hOR, HB2⟩
    case round =>
      clear hOL hOR HB2
      obtain ⟨k, rfl, hk, hO, hR, hB⟩ := hrel
      have hll : ([91, 94] ++ rangesT (rs.take k)).length ≤ 5000 := by
        have h1 := rangesT_len (rs.take k)
        rw [List.length_take] at h1
        simp only [List.length_append, List.length_cons, List.length_nil]
        omega
      by_cases hlt : k < rs.length
      · have HX : Hid (rs[k]? = some rs[k]) := Lib.hid (List.getElem?_eq_getElem hlt)
        obtain ⟨x1, x2⟩ := hsm rs[k] (List.getElem_mem hlt)
        obtain ⟨x, hx⟩ : ∃ x, rs[k] = x := ⟨_, rfl⟩
        rw [hx] at HX x1 x2
        have HL : Hid (([91, 94] ++ rangesT (rs.take k)) ++ rangeT x = [91, 94] ++ rangesT (rs.take (k + 1))) := by
          refine Lib.hid ?_
          rw [List.take_add_one, HX.out]
          show _ = [91, 94] ++ rangesT (rs.take k ++ [x])
          rw [rangesT_snoc, List.append_assoc]
        clear hx
        obtain ⟨f, t⟩ := x
        dsimp only at x1 x2
        obtain ⟨a', cap', hsl, hrow⟩ := owned_rowR hR.out
        cases hsl
        obtain ⟨b, off, rfl, r1, r2⟩ := hrow k _ HX.out
        have HAR := fun (wq : World) (ho : wq.ownsRow w.heap.size 5 1 u3 ([91, 94] ++ rangesT (rs.take k)).length (([91, 94] ++ rangesT (rs.take k)).map byteV)) (hn : w.heap.size ≤ wq.heap.size) => Lib.hid (appendRange_any u3 ([91, 94] ++ rangesT (rs.take k)) (f, t) x1 x2 w.heap.size wq ho hn (by omega))
        have hszr : w.heap.size ≤ wr.heap.size := hB.out.size
        go_wp2_with fail
        refine (HAR _ (hO.out.alloc _) (by simp; omega)).out.mono ?_
        rintro e w3 ⟨v3, rfl, hown3, hk3, hB3⟩
        have hR3 := Lib.hid (own_others (hR.out.alloc (.cells #[.int .u8 f, .int .u8 t] 88)) (by decide) hk3)
        have HB3 := Lib.hid ((hB.out.alloc hB.out.size (.cells #[.int .u8 f, .int .u8 t] 88)).trans hB3)
        rw [HL.out] at hown3
        have hO3 := Lib.hid hown3
        clear hown3 hk3 hB3 HAR hO hR hB r1 r2
        go_wp2
        go_roundw
        case rel => exact ⟨k + 1, by go_num, by omega, hO3, hR3, HB3⟩
        case measure => simp [intOf]; omega
      · obtain rfl : k = rs.length := by omega
        rw [List.take_length] at hO hll
        obtain ⟨L, hL⟩ : ∃ L, L = [91, 94] ++ rangesT rs := ⟨_, rfl⟩
        rw [← hL] at hO hll HTX
        clear hL hR
        have hszr : w.heap.size ≤ wr.heap.size := hB.out.size
        have hconv : ∀ (g c : Nat) (w' : World), w'.ownsRow w.heap.size 5 1 (.slice (some ⟨g, 0, none⟩) (L.length + 1) c) (L.length + 1) (L.map byteV ++ [.int .u8 93]) → (convert 22 9 (.slice (some ⟨g, 0, none⟩) (L.length + 1) c)).run Tryd.prog w' = .ok (.string (bytesStr (L ++ [93]))) w' := by
          intro g c w' ho
          have e2 : L.map byteV ++ [.int .u8 93] = (L ++ [93]).map byteV := by simp [byteV]
          rw [e2] at ho
          exact conv_own g c w' (L ++ [93]) (L.length + 1) (by simp) ho
        go_wp2_with (at_builtin; refine wpList_append_own _ rfl _ _ 22 rfl w.heap.size 5 i0 (.int .u8 0) 1 1 Tryd.underlying22 hi hz0 hz1 hz2 rfl (by decide) _ _ _ rfl (hO.out.alloc _) ⟨wr.heap.size, 0, none⟩ 1 1 [.int .u8 93] rfl rfl (cell_one_new _ _ _) (by simp [Value.oneCell']) (by unfold maxLen; omega) (by omega) (by simp; omega) ?_; intro v4 w4 hown4 hgrow _; obtain ⟨g4, c4, rfl⟩ := ownsRow_succ hown4; have hcv := hconv g4 c4 w4 hown4)
        have hf4 := own_fin (hO.out.alloc _) ((Lib.OthersKept.refl 5 none wr).alloc _) ((Below.refl w.heap.size wr).alloc hszr _) hszr hgrow
        go_ret
        exact ⟨by rw [HTX.out]; rfl, hB.out.trans hf4.2⟩
  · have hN' : ¬ (128 : Int) < N := by omega
    have HTX : Hid (TX = [91] ++ rangesT (rngs (bytesL s)) ++ [93]) := Lib.hid (by rw [HT.out, if_neg hN])
    clear HT
    have c0 : w1.cell? ⟨w.heap.size, 0, none⟩ = some (.int .u64 (wdI s 0)) := hA1.out.cell 0
    have c1 : w1.cell? ⟨w.heap.size, 1, none⟩ = some (.int .u64 (wdI s 1)) := hA1.out.cell 1
    have c2 : w1.cell? ⟨w.heap.size, 2, none⟩ = some (.int .u64 (wdI s 2)) := hA1.out.cell 2
    have c3 : w1.cell? ⟨w.heap.size, 3, none⟩ = some (.int .u64 (wdI s 3)) := hA1.out.cell 3
    have HR := Lib.hid (ranges_any s w1 (HG.out.below (Nat.le_refl _) HB1.out))
    have hrl := rngs_length (bytesL s)
    have hbl := length_bytesL s
    have hsm := rngs_small (bytesL s) (fun x hx => ((mem_bytesL s x).1 hx).1)
    obtain ⟨rs, hrs⟩ : ∃ rs, rs = rngs (bytesL s) := ⟨_, rfl⟩
    rw [← hrs] at HR HTX hrl hsm
    have hrl2 : rs.length ≤ 256 := by omega
    clear hrs hrl hbl
    go_wp2_with fail
    refine HR.out.mono ?_
    rintro e w2 ⟨vr, rfl, hown2, _, hB2⟩
    obtain ⟨ar, cr, rfl, _⟩ := owned_rowR hown2
    have hOR := Lib.hid hown2
    have hOL := Lib.hid (own_below hO1.out hB2 (Nat.le_refl _))
    have HB2 := Lib.hid (HB1.out.trans (hB2.mono HB1.out.size))
    clear hown2 hB2 c0 c1 c2 c3 HR hA1 hO1
    go_wp2
    go_loopw [3, 18] (fun q p wr => ∃ (k : Nat), p = .int .i64 k ∧ k ≤ rs.length ∧ Hid (wr.ownsRow w.heap.size 5 1 q ([91] ++ rangesT (rs.take k)).length (([91] ++ rangesT (rs.take k)).map byteV)) ∧ Hid (wr.ownsRow w1.heap.size 88 2 (.slice ar rs.length cr) rs.length (cellsR rs)) ∧ Hid (Below w.heap.size w wr))
      (fun _ p _ => rs.length - (intOf p).toNat)
    case atStart => exact ⟨0, rfl, Nat.zero_le _, by simpa [rangesT, byteV] using hOL, hOR, HB2⟩
    case round =>
      clear hOL hOR HB2
      obtain ⟨k, rfl, hk, hO, hR, hB⟩ := hrel
      have hll : ([91] ++ rangesT (rs.take k)).length ≤ 5000 := by
        have h1 := rangesT_len (rs.take k)
        rw [List.length_take] at h1
        simp only [List.length_append, List.length_cons, List.length_nil]
        omega
      by_cases hlt : k < rs.length
      · have HX : Hid (rs[k]? = some rs[k]) := Lib.hid (List.getElem?_eq_getElem hlt)
        obtain ⟨x1, x2⟩ := hsm rs[k] (List.getElem_mem hlt)
        obtain ⟨x, hx⟩ : ∃ x, rs[k] = x := ⟨_, rfl⟩
        rw [hx] at HX x1 x2
        have HL : Hid (([91] ++ rangesT (rs.take k)) ++ rangeT x = [91] ++ rangesT (rs.take (k + 1))) := by
          refine Lib.hid ?_
          rw [List.take_add_one, HX.out]
          show _ = [91] ++ rangesT (rs.take k ++ [x])
          rw [rangesT_snoc, List.append_assoc]
        clear hx
        obtain ⟨f, t⟩ := x
        dsimp only at x1 x2
        obtain ⟨a', cap', hsl, hrow⟩ := owned_rowR hR.out
        cases hsl
        obtain ⟨b, off, rfl, r1, r2⟩ := hrow k _ HX.out
        have HAR := fun (wq : World) (ho : wq.ownsRow w.heap.size 5 1 u3 ([91] ++ rangesT (rs.take k)).length (([91] ++ rangesT (rs.take k)).map byteV)) (hn : w.heap.size ≤ wq.heap.size) => Lib.hid (appendRange_any u3 ([91] ++ rangesT (rs.take k)) (f, t) x1 x2 w.heap.size wq ho hn (by omega))
        have hszr : w.heap.size ≤ wr.heap.size := hB.out.size
        go_wp2_with fail
        refine (HAR _ (hO.out.alloc _) (by simp; omega)).out.mono ?_
        rintro e w3 ⟨v3, rfl, hown3, hk3, hB3⟩
        have hR3 := Lib.hid (own_others (hR.out.alloc (.cells #[.int .u8 f, .int .u8 t] 88)) (by decide) hk3)
        have HB3 := Lib.hid ((hB.out.alloc hB.out.size (.cells #[.int .u8 f, .int .u8 t] 88)).trans hB3)
        rw [HL.out] at hown3
        have hO3 := Lib.hid hown3
        clear hown3 hk3 hB3 HAR hO hR hB r1 r2
        go_wp2
        go_roundw
        case rel => exact ⟨k + 1, by go_num, by omega, hO3, hR3, HB3⟩
        case measure => simp [intOf]; omega
      · obtain rfl : k = rs.length := by omega
        rw [List.take_length] at hO hll
        obtain ⟨L, hL⟩ : ∃ L, L = [91] ++ rangesT rs := ⟨_, rfl⟩
        rw [← hL] at hO hll HTX
        clear hL hR
        have hszr : w.heap.size ≤ wr.heap.size := hB.out.size
        have hconv : ∀ (g c : Nat) (w' : World), w'.ownsRow w.heap.size 5 1 (.slice (some ⟨g, 0, none⟩) (L.length + 1) c) (L.length + 1) (L.map byteV ++ [.int .u8 93]) → (convert 22 9 (.slice (some ⟨g, 0, none⟩) (L.length + 1) c)).run Tryd.prog w' = .ok (.string (bytesStr (L ++ [93]))) w' := by
          intro g c w' ho
          have e2 : L.map byteV ++ [.int .u8 93] = (L ++ [93]).map byteV := by simp [byteV]
          rw [e2] at ho
          exact conv_own g c w' (L ++ [93]) (L.length + 1) (by simp) ho
        go_wp2_with (at_builtin; refine wpList_append_own _ rfl _ _ 22 rfl w.heap.size 5 i0 (.int .u8 0) 1 1 Tryd.underlying22 hi hz0 hz1 hz2 rfl (by decide) _ _ _ rfl (hO.out.alloc _) ⟨wr.heap.size, 0, none⟩ 1 1 [.int .u8 93] rfl rfl (cell_one_new _ _ _) (by simp [Value.oneCell']) (by unfold maxLen; omega) (by omega) (by simp; omega) ?_; intro v4 w4 hown4 hgrow _; obtain ⟨g4, c4, rfl⟩ := ownsRow_succ hown4; have hcv := hconv g4 c4 w4 hown4)
        have hf4 := own_fin (hO.out.alloc _) ((Lib.OthersKept.refl 5 none wr).alloc _) ((Below.refl w.heap.size wr).alloc hszr _) hszr hgrow
        go_ret
        exact ⟨by rw [HTX.out]; rfl, hB.out.trans hf4.2⟩
end Go.Proofs.YtdodkbpagbblmaaDoor
