import Derived.RangeFuncBox
import Derived.Maps.AppendAt
import Derived.Test.YtdodkbpagbblmaaDoorI
namespace Go.Proofs.YtdodkbpagbblmaaDoor
open Go Go.RowKit Go.Shelf

attribute [local go_sem] Oper.semAt_some

theorem Tryd.info88 : (Tryd.prog.info? 88).map (fun i => (i.zero, i.size, i.bytes)) = some (some (.agg #[.int .u8 0, .int .u8 0]), 2, 2) := by kernel_rfl

theorem bytes_in (n : Nat) (s : BS) (w : World) :
    CallsIn Fence.wide n Tryd.prog 64 #[vset s] w fun e w' => e = .returned (.func (.func 79) #[] #[.pointer (some ⟨w.heap.size, 0, none⟩)]) ∧ w' = w.alloc (.cells (cset s) 36) := by
  unfold vset cset
  refine callsIn_of_wp Tryd.func64 rfl trivial ?_ rfl
  simp only [Tryd.ntmps64, List.size_toArray, List.length_cons, List.length_nil, Nat.reduceAdd, Nat.reduceSub, Array.replicate_succ, Array.replicate_zero, List.push_toArray, List.append_toArray, List.nil_append, List.cons_append]
  gi_wp2
  go_ret
  exact ⟨rfl, rfl⟩

theorem bytes_stops (n : Nat) (hn : 1 ≤ n) (Bn : Nat) (s : BS) (w : World) (hBn : Blk w Bn 36 (cset s)) (hT : TabAt 3 Lib.deBruijn64tab w) :
    SeqStopsK Fence.wide n Tryd.prog 79 #[.pointer (some ⟨Bn, 0, none⟩)] (fun x : Fin 256 => #[Value.int .u8 ((x.val : Nat) : Int)]) KpG (fun ys => ys.map Fin.val = bytesL s) (fun pre => pre.map Fin.val <+: bytesL s) (bytesL s).length w := by
  intro l J Jx W hW _ _ hY h0
  have hc : ∀ i, W.cell? ⟨Bn, i, none⟩ = (cset s)[i]? := (hBn.below hW hBn.lt).cell
  have hT' : TabAt 3 Lib.deBruijn64tab W := fun j hj => by
    have := hT j hj
    exact (hW.cell (p := ⟨3, j, none⟩) (lt_of_cell this)).trans this
  refine (bytes1_in n hn l Bn s (fun p W => ∃ q : List (Fin 256), p = q.map Fin.val ∧ J q W) (fun p W => ∃ q : List (Fin 256), p = q.map Fin.val ∧ Jx q W) ?_ W hc hT' ⟨[], rfl, h0⟩).mono ?_
  · rintro pre x W2 hx ⟨q, rfl, hJ⟩ hlen
    have h := hY q ⟨x, hx⟩ W2 hJ (by simpa using hlen)
    refine h.mono ?_
    rintro e W3 (⟨h1, h2, h3⟩ | ⟨h1, h2⟩)
    · exact .inl ⟨h1, ⟨q ++ [⟨x, hx⟩], by simp, h2⟩, h3⟩
    · exact .inr ⟨h1, ⟨q ++ [⟨x, hx⟩], by simp, h2⟩⟩
  · rintro e W2 ⟨h1, ⟨ys, hys, q, hq, hJ⟩ | ⟨pre, hpre, q, hq, hJ⟩⟩
    · exact ⟨h1, .inl ⟨q, hq.symm.trans hys, hJ⟩⟩
    · exact ⟨h1, .inr ⟨q, by show q.map Fin.val <+: _; rw [← hq]; exact hpre, hJ⟩⟩

/-- One byte more: the last range goes on, or a new one begins. -/
def rstep (out : List (Nat × Nat)) (x : Nat) : List (Nat × Nat) :=
  match out.getLast? with
  | some r => if (x + 256 - r.2) % 256 = 1 then out.dropLast ++ [(r.1, x)] else out ++ [(x, x)]
  | none => [(x, x)]
def rngs (l : List Nat) : List (Nat × Nat) := l.foldl rstep []
theorem rngs_snoc (l : List Nat) (x : Nat) : rngs (l ++ [x]) = rstep (rngs l) x := by simp [rngs, List.foldl_append]

theorem list_rev_cases (rs : List (Nat × Nat)) : rs = [] ∨ ∃ rs' r, rs = rs' ++ [r] := by
  rcases List.eq_nil_or_concat rs with h | ⟨rs', r, h⟩
  · exact .inl h
  · exact .inr ⟨rs', r, by rw [h, List.concat_eq_append]⟩

theorem rstep_length (rs : List (Nat × Nat)) (x : Nat) : (rstep rs x).length ≤ rs.length + 1 := by
  rcases list_rev_cases rs with rfl | ⟨rs', r, rfl⟩
  · simp [rstep]
  · simp only [rstep, List.getLast?_append, List.getLast?_singleton, Option.some_or]
    split <;> simp

theorem rstep_small (rs : List (Nat × Nat)) (x : Nat) (h : SmallR rs) (hx : x < 256) : SmallR (rstep rs x) := by
  rcases list_rev_cases rs with rfl | ⟨rs', r, rfl⟩
  · intro y hy; simp [rstep] at hy; subst hy; exact ⟨hx, hx⟩
  · have hr := h r (by simp)
    simp only [rstep, List.getLast?_append, List.getLast?_singleton, Option.some_or]
    intro y hy
    split at hy
    · simp at hy
      rcases hy with hy | rfl
      · exact h y (by simp [hy])
      · exact ⟨hr.1, hx⟩
    · simp at hy
      rcases hy with hy | rfl | rfl
      · exact h y (by simp [hy])
      · exact hr
      · exact ⟨hx, hx⟩

theorem rngs_length (l : List Nat) : (rngs l).length ≤ l.length := by
  have h : ∀ (l : List Nat) (rs : List (Nat × Nat)), (l.foldl rstep rs).length ≤ rs.length + l.length := by
    intro l
    induction l with
    | nil => intro rs; simp
    | cons x l ih =>
      intro rs
      have h1 := ih (rstep rs x)
      have h2 := rstep_length rs x
      simp only [List.foldl_cons, List.length_cons]
      omega
  have := h l []
  simpa [rngs] using this

theorem rngs_small (l : List Nat) (hl : ∀ x ∈ l, x < 256) : SmallR (rngs l) := by
  have h : ∀ (l : List Nat) (rs : List (Nat × Nat)), (∀ x ∈ l, x < 256) → SmallR rs → SmallR (l.foldl rstep rs) := by
    intro l
    induction l with
    | nil => intro rs _ h; exact h
    | cons x l ih =>
      intro rs hl h
      exact ih _ (fun y hy => hl y (by simp [hy])) (rstep_small rs x h (hl x (by simp)))
  exact h l [] hl (by intro x hx; cases hx)

/-- The cells of ranges. -/
def cellsR (rs : List (Nat × Nat)) : List Value := rs.flatMap fun r => [.int .u8 r.1, .int .u8 r.2]
theorem cellsR_snoc (rs : List (Nat × Nat)) (r : Nat × Nat) : cellsR (rs ++ [r]) = cellsR rs ++ [.int .u8 r.1, .int .u8 r.2] := by simp [cellsR]
theorem cellsR_length (rs : List (Nat × Nat)) : (cellsR rs).length = rs.length * 2 := by
  induction rs with
  | nil => rfl
  | cons r rs ih => simp [cellsR] at ih ⊢; omega
theorem cellsR_last (rs : List (Nat × Nat)) (r : Nat × Nat) : (cellsR (rs ++ [r]))[rs.length * 2 + 1]? = some (.int .u8 r.2) := by
  rw [cellsR_snoc, List.getElem?_append_right (by rw [cellsR_length]; omega), cellsR_length]
  simp
theorem cellsR_set (rs : List (Nat × Nat)) (r : Nat × Nat) (x : Nat) : (cellsR (rs ++ [r])).set (rs.length * 2 + 1) (.int .u8 x) = cellsR (rs ++ [(r.1, x)]) := by
  rw [cellsR_snoc, cellsR_snoc, List.set_append_right _ _ (by rw [cellsR_length]; omega), cellsR_length]
  simp

theorem cell_two_new (w : World) (x y : Value) (t : TypeId) : ∀ j u, [x, y][j]? = some u → (w.alloc (.cells #[x, y] t)).cell? ((⟨w.heap.size, 0, none⟩ : Addr).add j) = some u := by
  intro j u hj
  match j, hj with
  | 0, hj =>
    simp at hj
    subst hj
    simp [Addr.add]
  | 1, hj =>
    simp at hj
    subst hj
    simp [Addr.add]

set_option maxRecDepth 100000 in
set_option maxHeartbeats 4000000 in
theorem ranges_in (n : Nat) (hn : 6 ≤ n) (s : BS) (w : World) (hG : Glob w) :
    CallsIn Fence.wide n Tryd.prog 48 #[vset s] w fun e W' => ∃ v, e = .returned v ∧ W'.ownsRow w.heap.size 88 2 v (rngs (bytesL s)).length (cellsR (rngs (bytesL s))) ∧ (v = .slice none 0 0 ↔ rngs (bytesL s) = []) ∧ Below w.heap.size w W' := by
  have h1 : 1 ≤ n := by omega
  have h00 : 3 < w.heap.size := lt_of_cell (hG.1 0 (by decide))
  have hlen := length_bytesL s
  obtain ⟨i0, hi, hz0, hz1, hz2⟩ := info_parts Tryd.info88
  unfold vset
  refine callsIn_of_wp_marks Tryd.func48 rfl trivial ?_ rfl
  simp only [Tryd.ntmps48, List.size_toArray, List.length_cons, List.length_nil, Nat.reduceAdd, Nat.reduceSub, Array.replicate_succ, Array.replicate_zero, List.push_toArray, List.append_toArray, List.nil_append, List.cons_append]
  gi_wp2_with (refine ⟨trivial, ?_⟩; gi_at_call 64; refine (bytes_in (n - 1) s _).mono ?_; rintro e w' ⟨rfl, rfl⟩)
  have bT := Blk.new ((w.alloc (.cells #[.int .u64 (wdI s 0), .int .u64 (wdI s 1), .int .u64 (wdI s 2), .int .u64 (wdI s 3)] 36)).alloc (.cells #[.slice none 0 0] 85)) 36 (cset s)
  have bO := (Boxed.new (w.alloc (.cells #[.int .u64 (wdI s 0), .int .u64 (wdI s 1), .int .u64 (wdI s 2), .int .u64 (wdI s 3)] 36)) 85 (.slice none 0 0)).alloc (.cells (cset s) 36)
  simp only [World.size_alloc] at bT bO
  have hB0 : Below w.heap.size w (((w.alloc (.cells #[.int .u64 (wdI s 0), .int .u64 (wdI s 1), .int .u64 (wdI s 2), .int .u64 (wdI s 3)] 36)).alloc (.cells #[.slice none 0 0] 85)).alloc (.cells (cset s) 36)) :=
    (((Below.refl _ w).alloc (Nat.le_refl _) _).alloc (by simp) _).alloc (by simp; omega) _
  have hsz : (((w.alloc (.cells #[.int .u64 (wdI s 0), .int .u64 (wdI s 1), .int .u64 (wdI s 2), .int .u64 (wdI s 3)] 36)).alloc (.cells #[.slice none 0 0] 85)).alloc (.cells (cset s) 36)).heap.size = w.heap.size + 3 := by simp
  obtain ⟨W0, hW0⟩ : ∃ W0, (((w.alloc (.cells #[.int .u64 (wdI s 0), .int .u64 (wdI s 1), .int .u64 (wdI s 2), .int .u64 (wdI s 3)] 36)).alloc (.cells #[.slice none 0 0] 85)).alloc (.cells (cset s) 36)) = W0 := ⟨_, rfl⟩
  rw [hW0] at bT bO hB0 hsz ⊢
  clear hW0
  refine wpIn_rangeFunc_ownG rfl h1 (gf := 79) (lb := #[.pointer (some ⟨w.heap.size + 1 + 1, 0, none⟩)]) rfl trivial (enters_of Tryd.func79 (by kernel_rfl) rfl)
    (bytes_stops (n - 1) (by omega) (w.heap.size + 1 + 1) s W0 bT (hG.below (Nat.le_refl _) hB0).1) kpG_t kpG_b (Below.refl _ _) (fun _ => rfl)
    (fun pre W => (∃ v, Boxed W (w.heap.size + 1) 85 v ∧ W.ownsRow w.heap.size 88 2 v (rngs (pre.map Fin.val)).length (cellsR (rngs (pre.map Fin.val))) ∧ (v = .slice none 0 0 ↔ rngs (pre.map Fin.val) = [])) ∧ Below w.heap.size w W)
    (fun _ _ _ => False)
    (OwnFrom.and (Own.from (holdsRow_own w.heap.size (w.heap.size + 1) 85 88 2 (fun pre : List (Fin 256) => (rngs (pre.map Fin.val)).length) (fun pre => cellsR (rngs (pre.map Fin.val))) (fun pre v => v = .slice none 0 0 ↔ rngs (pre.map Fin.val) = [])) _) (ownFrom_below (Nat.le_refl _) (by omega)))
    (fun _ _ _ _ _ hs _ _ => hs)
    ⟨⟨_, bO, World.ownsRow_nil _ _ _ _, by simp [rngs]⟩, hB0⟩
    (fun x => { tmps := #[.agg #[.int .u64 (wdI s 0), .int .u64 (wdI s 1), .int .u64 (wdI s 2), .int .u64 (wdI s 3)], .pointer (some ⟨w.heap.size, 0, none⟩), .slice none 0 0, .pointer (some ⟨w.heap.size + 1, 0, none⟩), .int .u8 ((x.val : Nat) : Int), undef, .agg #[.int .u64 (wdI s 0), .int .u64 (wdI s 1), .int .u64 (wdI s 2), .int .u64 (wdI s 3)], .func (.func 79) #[] #[.pointer (some ⟨w.heap.size + 1 + 1, 0, none⟩)], .int .u8 ((x.val : Nat) : Int), undef, undef, undef, undef, undef, undef, undef, undef, undef, undef, undef, undef, undef, undef, undef, undef, undef, undef, undef, undef, undef, undef, undef, undef, undef, undef, undef], defers := [] }) ?assign ?body ?done ?stop
  case assign =>
    intro l x W K hK
    gi_wp2
    exact hK
  case body =>
    rintro l pre x W ⟨⟨v, hv, hrow, hnil⟩, hB⟩ hlt
    have hsn : (pre ++ [x]).map Fin.val = pre.map Fin.val ++ [x.val] := by simp
    have hlenP : (rngs (pre.map Fin.val)).length ≤ 256 := by
      have h1 := rngs_length (pre.map Fin.val)
      rw [List.length_map] at h1
      omega
    have hsm : SmallR (rngs (pre.map Fin.val)) := rngs_small _ (by
      intro y hy
      rw [List.mem_map] at hy
      obtain ⟨z, _, rfl⟩ := hy
      exact z.isLt)
    have hrs := rngs_snoc (pre.map Fin.val) x.val
    rw [← hsn] at hrs
    have HRS := Lib.hid hrs
    clear hrs hsn
    obtain ⟨rs, hrs⟩ : ∃ rs, rs = rngs (pre.map Fin.val) := ⟨_, rfl⟩
    rw [← hrs] at hrow hnil hlenP HRS hsm
    clear hrs
    obtain ⟨x, hx⟩ := x
    dsimp only at HRS ⊢
    have hc := hv.cell
    have hx256 : (x : Int) < 256 := by omega
    rcases List.eq_nil_or_concat rs with rfl | ⟨rs', r, hcat⟩
    · have hv0 : v = .slice none 0 0 := hnil.2 rfl
      have HS : Hid (rngs ((pre ++ [(⟨x, hx⟩ : Fin 256)]).map Fin.val) = [(x, x)]) := Lib.hid (HRS.out.trans rfl)
      clear HRS hnil
      subst hv0
      gi_wp2_with (gi_at_builtin; refine wpListIn_append_own _ rfl _ _ 85 rfl w.heap.size 88 i0 (.agg #[.int .u8 0, .int .u8 0]) 2 2 Tryd.underlying85 hi hz0 hz1 hz2 rfl (by decide) _ _ _ rfl (hrow.alloc _) ⟨W.heap.size, 0, none⟩ 1 1 [.int .u8 x, .int .u8 x] rfl rfl (cell_two_new _ _ _ _) (by simp [Value.oneCell']) (by unfold maxLen; omega) (by omega) (by have := hB.size; simp; omega) ?_; intro v' w1 hown' hgrow _; obtain ⟨g', cap', rfl⟩ := ownsRow_succ hown'; obtain ⟨hv1, hv2, hr2, hk2, hb2⟩ := hv.appended (by decide) hrow hB.size (Nat.le_succ _) hown' hgrow; have hc1 := hv1.cell; have hf1 := hv1.frozen)
      exact ⟨hk2.from _, KpG.below hb2 h00, ⟨_, hv2, by rw [HS.out]; exact hr2, by rw [HS.out]; simp⟩, hB.trans hb2⟩
    · rw [List.concat_eq_append] at hcat
      subst hcat
      have hrl : (rs' ++ [r]).length = rs'.length + 1 := by simp
      rw [hrl] at hrow hlenP
      obtain ⟨g, cap, rfl⟩ := ownsRow_succ hrow
      have HC := Lib.hid ((hrow.cellAt (rs'.length * 2 + 1) (by omega)).trans (cellsR_last rs' r))
      have hfg := hrow.frozenAt (rs'.length * 2 + 1)
      have HS : Hid (rngs ((pre ++ [(⟨x, hx⟩ : Fin 256)]).map Fin.val) = if (x + 256 - r.2) % 256 = 1 then rs' ++ [(r.1, x)] else rs' ++ [r] ++ [(x, x)]) := by
        refine Lib.hid (HRS.out.trans ?_)
        simp [rstep]
      clear HRS hnil
      obtain ⟨f, t⟩ := r
      dsimp only at HC HS
      have hcl := HC.out
      have ht : t < 256 := (hsm (f, t) (by simp)).2
      by_cases heq : (x + 256 - t) % 256 = 1
      · have hw : (IntKind.u8.wrap ((x : Int) - (t : Int)) == 1) = true := by
          rw [IntKind.wrap_u8']; simp; omega
        obtain ⟨hst, hgr⟩ := hrow.stored (rs'.length * 2 + 1) (.int .u8 x)
        have HST := Lib.hid hst
        have HGR := Lib.hid hgr
        have hgn : w.heap.size ≤ g := by
          rcases hrow.2 with ⟨h, _⟩ | ⟨g', cap', cur, h, hb, _⟩
          · cases h
          · cases h; exact hb
        have HNR := Lib.hid (hv.not_row (by decide) hrow)
        clear hst hgr
        gi_wp2
        rw [if_pos heq] at HS
        refine ⟨(KeepsOthers.setCell _ _ _).from _, KpG.below ((Below.refl w.heap.size W).setCell (p := ⟨g, _, none⟩) hgn _) h00, ⟨_, hv.kept HGR.out (by simpa [Value.ownBlock] using HNR.out), ?_, ?_⟩, hB.setCell (p := ⟨g, _, none⟩) hgn _⟩
        · rw [HS.out]
          have h := HST.out
          rw [cellsR_set rs' (f, t) x] at h
          simpa using h
        · rw [HS.out]; simp
      · have hw : (IntKind.u8.wrap ((x : Int) - (t : Int)) == 1) = false := by
          rw [IntKind.wrap_u8']; simp; omega
        rw [if_neg heq] at HS
        gi_wp2_with (gi_at_builtin; refine wpListIn_append_own _ rfl _ _ 85 rfl w.heap.size 88 i0 (.agg #[.int .u8 0, .int .u8 0]) 2 2 Tryd.underlying85 hi hz0 hz1 hz2 rfl (by decide) _ _ _ rfl (hrow.alloc _) ⟨W.heap.size, 0, none⟩ 1 1 [.int .u8 x, .int .u8 x] rfl rfl (cell_two_new _ _ _ _) (by simp [Value.oneCell']) (by unfold maxLen; omega) (by omega) (by have := hB.size; simp; omega) ?_; intro v' w1 hown' hgrow _; obtain ⟨g', cap', rfl⟩ := ownsRow_succ hown'; obtain ⟨hv1, hv2, hr2, hk2, hb2⟩ := hv.appended (by decide) hrow hB.size (Nat.le_succ _) hown' hgrow; have hc1 := hv1.cell; have hf1 := hv1.frozen)
        have hkk : rs'.length + 1 + 1 = (rs' ++ [(f, t)] ++ [(x, x)]).length := by simp
        refine ⟨hk2.from _, KpG.below hb2 h00, ⟨_, hv2, ?_, by rw [HS.out]; simp⟩, hB.trans hb2⟩
        rw [HS.out, cellsR_snoc, ← hkk]
        exact hr2
  case done =>
    rintro D ys W hD hys ⟨⟨v, hv, hrow, hnil⟩, hB⟩ hK
    have hys2 : ys.map Fin.val = bytesL s := hys
    rw [hys2] at hrow hnil
    have hc := hv.cell
    gi_wp2
    refine ⟨by simp, .inl ⟨_, _, rfl, run_takeDeferred hK, ?_⟩⟩
    exact ⟨_, results_tmp rfl _ _ _, v, rfl, ownsRow_putObj hrow _ hK rfl, hnil, hB.trans (belowK_b (w := w) (Nat.le_refl _) W D _ _ (by omega) hK rfl rfl)⟩
  case stop =>
    rintro D c pre W _ _ h _
    exact h.elim
end Go.Proofs.YtdodkbpagbblmaaDoor
