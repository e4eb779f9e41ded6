import Derived.OwnWalkIn
import Derived.RangeFuncBox
import Derived.Test.YtdodkbpagbblmaaDoorM8
section
namespace Go.Proofs.YtdodkbpagbblmaaDoor
open Go Go.RowKit Go.Shelf

/-! ### a text of semicolons -/
def sW : Wd := ⟨5, ⟨#[59]⟩, 0#256, 0⟩
def semiW : Nat → Nat → List (Wd × Nat)
  | 0, _ => []
  | n + 1, k => (sW, k) :: semiW n (k + 1)
theorem semiW_len : ∀ (n k : Nat), (semiW n k).length = n := by
  intro n
  induction n with
  | zero => intro k; rfl
  | succ n ih => intro k; unfold semiW; rw [List.length_cons, ih]
theorem semiW_fst : ∀ (n k : Nat), ∀ x ∈ semiW n k, x.1 = sW := by
  intro n
  induction n with
  | zero => intro k x hx; cases hx
  | succ n ih =>
    intro k x hx
    unfold semiW at hx
    rcases List.mem_cons.1 hx with rfl | hx
    · rfl
    · exact ih _ x hx
theorem lexAt_semi : ∀ (n k : Nat), lexAt (List.replicate n 59) k = (semiW n k, none) := by
  intro n
  induction n with
  | zero => intro k; exact lexAt_end _ _ rfl
  | succ n ih =>
    intro k
    rw [List.replicate_succ]
    have hp : Lib.hasPrefix (59 :: List.replicate n 59) [47, 47] = false := by simp [Lib.hasPrefix, List.isPrefixOf]
    have hs : skipL (59 :: List.replicate n 59) = 0 := skipL_end 59 _ (by decide) hp
    have hn : nextW (59 :: List.replicate n 59) = some (sW, 1) := by rfl
    have h0 : (59 :: List.replicate n 59).drop (skipL (59 :: List.replicate n 59)) = (59 :: List.replicate n 59 : List UInt8) := by rw [hs]; rfl
    rw [lexAt_step _ k (sW, 1) (by rw [h0]; simp) (by rw [h0]; exact hn), h0, hs]
    simp only [Nat.add_zero, List.drop_succ_cons, List.drop_zero]
    rw [ih]
    rfl
/-- That text. -/
def semiT (n : Nat) : ByteArray := bytesStr (List.replicate n 59)
theorem semiT_list (n : Nat) : (semiT n).data.toList = List.replicate n 59 := by
  unfold semiT
  rw [bytesStr_list, List.map_replicate]
  rfl
theorem semiT_size (n : Nat) : (semiT n).size = n := by
  unfold semiT
  rw [bytesStr_size, List.length_replicate]
theorem conv_semis (g c n : Nat) (w : World) (h : ∀ i, i < n → w.cell? ⟨g, i, none⟩ = some (.int .u8 59)) :
    (convert 22 9 (.slice (some ⟨g, 0, none⟩) n c)).run Tryd.prog w = .ok (.string (semiT n)) w := by
  refine run_convert_bytes_arg w 22 5 Tryd.underlying22 Tryd.underlying5 g 0 n c ((List.replicate n 59).map fun n : Nat => (n : Int)) (by simp) ?_ 9 Tryd.underlying9
  intro i hi
  rw [Nat.zero_add, h i hi]
  simp [List.getD, hi]
theorem tail_semi (l : List (Wd × Int)) (h : ∀ x ∈ l, x.1 = sW) : (tailW l).length = 2 * l.length := by
  induction l with
  | nil => rfl
  | cons x l ih =>
    have hx : x.1 = sW := h x (by simp)
    have e : tailW (x :: l) = 32 :: wordF x.1 ++ tailW l := rfl
    have e2 : wordF sW = [59] := by rfl
    rw [e, hx, e2]
    simp only [List.length_append, List.length_cons, List.length_nil]
    rw [ih (fun y hy => h y (by simp [hy]))]
    omega
theorem join_semi (l : List (Wd × Int)) (h : ∀ x ∈ l, x.1 = sW) (n : Nat) (hn : l.length = n + 1) : (joinW l).length = 2 * n + 1 := by
  cases l with
  | nil => simp at hn
  | cons x l =>
    have hx : x.1 = sW := h x (by simp)
    have e2 : wordF sW = [59] := by rfl
    have e : joinW (x :: l) = wordF x.1 ++ tailW l := rfl
    rw [e, hx, e2, List.length_append, tail_semi l (fun y hy => h y (by simp [hy]))]
    simp at hn ⊢
    omega
theorem may_semi : mayB sW = true := by
  have h1 : bareW sW = sW := rfl
  have h2 : okW sW = true := rfl
  unfold mayB
  rw [h1, h2, sameW_self]
  rfl
theorem print_semi (l : List (Wd × Int)) (h : ∀ x ∈ l, x.1 = sW) (n : Nat) (hn : l.length = n + 1) (h1 : 2 * n + 1 ≤ 1048576) : ∃ s : ByteArray, printR l = (s, 0) ∧ s.size = 2 * n + 1 := by
  have hj := join_semi l h n hn
  refine ⟨_, printR_may l (fun x hx => by rw [h x hx]; exact may_semi) (by omega), ?_⟩
  rw [bytesStr_size]
  exact hj
theorem print_semi_long (l : List (Wd × Int)) (h : ∀ x ∈ l, x.1 = sW) (n : Nat) (hn : l.length = n + 1) (h1 : 1048576 < 2 * n + 1) : printR l = (⟨#[]⟩, 3) := by
  have hj := join_semi l h n hn
  unfold printR
  rw [if_pos (List.all_eq_true.2 fun x hx => by rw [h x hx]; exact may_semi), if_pos (by omega)]
theorem small_semi (l : List (Wd × Int)) (h : ∀ x ∈ l, x.1 = sW) : SmallW l := fun x hx => by
  rw [h x hx]
  have e : sW.txt.size = 1 := rfl
  have e2 : sW.num = 0 := rfl
  rw [e, e2]
  omega
theorem withI_mem (ws : List (Wd × Nat)) (h : ∀ x ∈ ws, x.1 = sW) : ∀ x ∈ withI ws, x.1 = sW := by
  intro x hx
  unfold withI at hx
  obtain ⟨y, hy, rfl⟩ := List.mem_map.1 hx
  exact h y hy
theorem RowW.take {w : World} {a : Option Addr} {l : List (Wd × Int)} (h : RowW w a l) (n : Nat) : RowW w a (l.take n) := fun i x hx => by
  rw [List.getElem?_take] at hx
  split at hx
  · exact h i x hx
  · cases hx
theorem own_rowWc {w : World} {n₀ n : Nat} {v : Value} {ws : List (Wd × Nat)} (h : w.ownsRow n₀ 38 8 v ws.length (cellsW ws)) (hn : ws.length = n) : ∃ a cap, v = .slice a n cap ∧ n ≤ cap ∧ RowW w a (withI ws) := by
  have h2 := own_rowW h
  subst hn
  rcases h.2 with ⟨rfl, h0⟩ | ⟨g, cap, cur, rfl, _, _, hc, _⟩
  · have hw : ws = [] := List.length_eq_zero_iff.1 h0
    subst hw
    exact ⟨none, 0, rfl, Nat.zero_le _, fun i x hx => by simp [withI] at hx⟩
  · obtain ⟨a, c, e, hr⟩ := h2
    cases e
    exact ⟨_, cap, rfl, hc, hr⟩
/-- The first words of a row. -/
theorem print_part (ws : List (Wd × Nat)) (hs : ∀ x ∈ ws, x.1 = sW) (n m : Nat) (hn : ws.length = n) (hm : m + 1 ≤ n) (hm1 : m + 1 ≤ 1048576) (s : ByteArray) (er : Int) (hR : printR ((withI ws).take (m + 1)) = (s, er)) (W : World) (a : Option Addr) (c : Nat) (hG : GlobD W) (hr : RowW W a (withI ws)) :
    Calls Tryd.prog 8 #[.slice a (m + 1) c] W fun e w' => e = .returned (.tuple #[.string s, .int .i64 er]) ∧ Below W.heap.size W w' :=
  print_of ((withI ws).take (m + 1)) s er hR (m + 1) (by rw [List.length_take, withI_len]; omega) hm1
    (fun x hx => small_semi (withI ws) (withI_mem ws hs) x (List.mem_of_mem_take hx)) W a c hG (hr.take _)

/-! ### texts at the bounds -/
def aL : List UInt8 := [97, 97, 97, 97, 97, 97, 97, 97, 97, 97, 97, 97, 97, 97, 97, 97, 97, 97, 97, 97, 97, 97, 97, 97, 97, 97, 97, 97, 97, 97, 97, 97, 97, 97, 97, 97, 97, 97, 97, 97, 97, 97, 97, 97, 97, 97, 97, 97, 97, 97, 97, 97, 97, 97, 97, 97, 97, 97, 97, 97, 97, 97, 97, 97]
theorem aL_rep : aL = List.replicate 64 97 := rfl
theorem lex_b1 : lexAt (aL ++ [32, 57, 57, 57, 57, 57, 57, 57, 57, 57]) 0 = ([(⟨1, bytesOf aL, 0#256, 0⟩, 0), (⟨4, ⟨#[]⟩, 0#256, 999999999⟩, 65)], none) := by kernel_rfl
theorem lex_b2 : (lexAt ([59, 32] ++ aL ++ [97]) 0).2 = some 2 := by kernel_rfl
theorem lex_b3 : (lexAt [59, 32, 49, 48, 48, 48, 48, 48, 48, 48, 48, 48] 0).2 = some 2 := by kernel_rfl

/-! ### the walk's own laws -/
theorem wpListIn_make_any {F : Fence} {n : Nat} {P : Program} (w : World) {ops : Array Oper} {rest : List Oper} {o : Oper} {a : Act} {Q : Exit → Act → World → Prop}
    (hg : o.guard = none) (l c : Operand) (t : TypeId) (hop : o.op = Op.makeSlice t l c)
    (base : Nat) (e : TypeId) (i : TypeInfo) (z : Value) (size : Nat) (h1 : P.underlying t = some (.slice e)) (h2 : P.info? e = some i) (h3 : i.zero = some z) (h4 : i.size = size)
    (kl kc : IntKind) (L C : Int) (m : Nat) (hl : a.eval l = .int kl L) (hc : a.eval c = .int kc C) (hL : L = (m : Int)) (hC : C = (m : Int)) (b2 : i.bytes * m ≤ 281474976710656) (b3 : m ≤ maxLen) (b4 : base ≤ w.heap.size)
    (hK : ∀ w' xs, w'.ownsRow base e size (.slice (some ⟨w.heap.size, 0, none⟩) m m) m xs → w.grownBy w' none → wpListIn F n P ops Q rest (a.put o.dst (.slice (some ⟨w.heap.size, 0, none⟩) m m)) w') :
    wpListIn F n P ops Q (o :: rest) a w := by
  refine wpListIn_plain hg fun K hK' => ?_
  obtain ⟨w', hrun, r1, r2⟩ := run_make_full (P := P) w base t e i z size h1 h2 h3 h4 kl kc m b2 b3 b4
  subst hL
  subst hC
  unfold Oper.wpIn
  refine ⟨?_, ?_⟩
  · simp [Oper.about, hop]
  · rw [Oper.semAt_plain F _ _ (by rw [hop]; intro c hc'; cases hc')]
    simp [execOp, hop, hl, hc, hrun, Result.andThen]
    exact hK' _ _ (hK w' _ r1 r2)

set_option maxRecDepth 100000 in
/-- A going over a text that is too long tells nothing. -/
theorem all1_long (n : Nat) (Bn : Nat) (t : ByteArray) (ht : 1048576 < t.size) (w : World) (hBn : Blk w Bn 9 #[.string t]) :
    SeqStopsK Fence.wide n Tryd.prog 17 #[.pointer (some ⟨Bn, 0, none⟩)] (fun _ : Empty => #[]) (fun _ _ => True) (fun ys => ys = []) (fun _ => False) 0 w := by
  intro l J Jx W hW _ _ hY h0
  have c0 : W.cell? ⟨Bn, 0, none⟩ = some (.string t) := (hBn.below hW hBn.lt).cell 0
  have n1 : (1048576 : Int) < (t.size : Int) := by omega
  have h0 := Lib.hid h0
  clear hBn hY hW
  refine callsIn_of_wp Tryd.func17 rfl trivial ?_ rfl
  simp only [Tryd.ntmps17, List.size_toArray, List.length_cons, List.length_nil, Nat.reduceAdd, Nat.reduceSub, Array.replicate_succ, Array.replicate_zero, List.push_toArray, List.append_toArray, List.nil_append, List.cons_append]
  gi_wp2
  refine bodyPost_ret (results_none rfl _ _ _) rfl ?_
  exact ⟨⟨_, rfl⟩, .inl ⟨[], rfl, h0.out⟩⟩
end Go.Proofs.YtdodkbpagbblmaaDoor
end
section
namespace Go.Proofs.YtdodkbpagbblmaaDoor
open Go Go.RowKit Go.Shelf

attribute [local go_sem] Oper.semAt_some

theorem lex_long (t : ByteArray) (ht : 1048576 < t.size) (w : World) (hG : GlobD w) :
    Calls Tryd.prog 7 #[.string t] w fun e w' => e = .returned (.tuple #[.slice none 0 0, .int .i64 0, .int .i64 3]) ∧ Below w.heap.size w w' := by
  refine (lex_any t w hG).mono ?_
  rintro e w' ⟨hB, h1 | h1 | h1⟩
  · exact ⟨h1.2, hB⟩
  · omega
  · omega
theorem eq_func (a : Value) (w : World) : (binOp .eql 30 (.func (.func 17) #[] #[a]) .nilFunc).run Tryd.prog w = .ok (.bool false) w := by kernel_rfl

set_option maxRecDepth 100000 in
set_option maxHeartbeats 16000000 in
theorem bounds_in (n : Nat) (hn : 9 ≤ n) (w : World) (hG : GlobD w) :
    CallsIn Fence.wide n Tryd.prog 3 #[] w fun e w' => e = .returned (.bool true) ∧ Below w.heap.size w w' := by
  obtain ⟨i0, hi, hz0, hz1, hz2⟩ := info_parts Tryd.info5
  have h1 : 1 ≤ n := by omega
  have hbig := hG.big
  have HG := Lib.hid hG
  clear hG
  obtain ⟨T1, hT1⟩ : ∃ T, T = semiT 1048576 := ⟨_, rfl⟩
  obtain ⟨T2, hT2⟩ : ∃ T, T = semiT 1048577 := ⟨_, rfl⟩
  obtain ⟨L, hL⟩ : ∃ L, L = semiW 1048576 0 := ⟨_, rfl⟩
  have HLl : Hid (L.length = 1048576) := Lib.hid (by rw [hL]; exact semiW_len 1048576 0)
  have HLs : Hid (∀ x ∈ L, x.1 = sW) := Lib.hid (by rw [hL]; exact semiW_fst 1048576 0)
  have hT2s : T2.size = 1048577 := by rw [hT2]; exact semiT_size 1048577
  have HT2 : Hid (1048576 < T2.size) := Lib.hid (by rw [hT2s]; decide)
  have H1 := Lib.hid (fun W hW => (lex_ok T1 L (by rw [hT1, semiT_list, hL]; exact lexAt_semi 1048576 0) (by rw [hT1, semiT_size]; decide) W hW))
  have H2 := Lib.hid (fun W hW => (lex_long T2 HT2.out W hW))
  obtain ⟨S1, hp1, hs1⟩ := print_semi ((withI L).take (524287 + 1)) (fun x hx => withI_mem L HLs.out x (List.mem_of_mem_take hx)) 524287 (by rw [List.length_take, withI_len, HLl.out]; decide) (by decide)
  have hp2 := print_semi_long ((withI L).take (524288 + 1)) (fun x hx => withI_mem L HLs.out x (List.mem_of_mem_take hx)) 524288 (by rw [List.length_take, withI_len, HLl.out]; decide) (by decide)
  have HP1 := Lib.hid (fun W a c hW hr => (print_part L HLs.out 1048576 524287 HLl.out (by decide) (by decide) S1 0 hp1 W a c hW hr))
  have HP2 := Lib.hid (fun W a c hW hr => (print_part L HLs.out 1048576 524288 HLl.out (by decide) (by decide) ⟨#[]⟩ 3 hp2 W a c hW hr))
  have HS1 := Lib.hid hs1
  have HCv : Hid (∀ (W : World) (g : Nat), (∀ i, i < 1048577 → W.cell? ⟨g, i, none⟩ = some (.int .u8 59)) → (convert 22 9 (.slice (some ⟨g, 0, none⟩) 1048576 1048577)).run Tryd.prog W = .ok (.string T1) W ∧ (convert 22 9 (.slice (some ⟨g, 0, none⟩) 1048577 1048577)).run Tryd.prog W = .ok (.string T2) W) := by
    refine Lib.hid fun W g h => ⟨?_, ?_⟩
    · rw [hT1]; exact conv_semis g 1048577 1048576 W (fun i hi => h i (by omega))
    · rw [hT2]; exact conv_semis g 1048577 1048577 W h
  clear hT1 hT2 hL hT2s hp1 hp2 hs1
  refine callsIn_of_wp_marks Tryd.func3 rfl trivial ?_ rfl
  simp only [Tryd.ntmps3, List.size_toArray, List.length_nil, Nat.reduceSub, Array.replicate_succ, Array.replicate_zero, List.push_toArray, List.append_toArray, List.nil_append, List.cons_append]
  gi_wp2_with (gi_at_make; refine wpListIn_make_any _ rfl _ _ 22 rfl (w.heap.size + 1) 5 i0 (.int .u8 0) 1 Tryd.underlying22 hi hz0 hz1 .i64 .i64 1048577 1048577 1048577 rfl rfl rfl rfl (by rw [hz2]; decide) (by unfold maxLen; decide) (by simp) ?_; intro w1 xs hown hgr)
  rw [World.size_alloc] at hown
  have hR0 : Hid (Blk w1 w.heap.size 4 #[.bool false]) := Lib.hid ((Blk.new w 4 _).kept hgr (by simp))
  have hB0 : Hid (Below w.heap.size w w1) := Lib.hid (((Below.refl w.heap.size w).alloc (Nat.le_refl _) _).grown hgr (by simp) (fun i e => by cases e))
  have hO0 := Lib.hid hown
  clear hown hgr
  gi_loopw [2] (fun i wr => ∃ (m : Nat) (xs : List Value), i = .int .i64 m ∧ m ≤ 1048577 ∧ Hid (wr.ownsRow (w.heap.size + 1) 5 1 (.slice (some ⟨w.heap.size + 1, 0, none⟩) 1048577 1048577) 1048577 xs) ∧ Hid (∀ j, j < m → xs[j]? = some (.int .u8 59)) ∧ Hid (Blk wr w.heap.size 4 #[.bool false]) ∧ Hid (Below w.heap.size w wr))
    (fun i _ => 1048577 - (intOf i).toNat)
  case atStart => exact ⟨0, xs, rfl, Nat.zero_le _, hO0, Lib.hid (fun j hj => absurd hj (by omega)), hR0, hB0⟩
  case round =>
    clear hO0 hR0 hB0
    obtain ⟨m, xs, rfl, hm, hO, hA, hR, hB⟩ := hrel
    by_cases hlt : m < 1048577
    · have n1 : (m : Int) < 1048577 := by omega
      have hlen : xs.length = 1048577 := by have := hO.out.1; omega
      have hcl := hO.out.cellAt m (by omega)
      rw [List.getElem?_eq_getElem (by omega : m < xs.length)] at hcl
      obtain ⟨u, hu⟩ : ∃ u, u = xs[m]'(by omega) := ⟨_, rfl⟩
      rw [← hu] at hcl
      have hfz := hO.out.frozenAt m
      obtain ⟨hst, hgr⟩ := hO.out.stored m (.int .u8 59)
      have HST := Lib.hid hst
      have HA : Hid (∀ j, j < m + 1 → (xs.set m (.int .u8 59))[j]? = some (.int .u8 59)) := by
        refine Lib.hid fun j hj => ?_
        rw [List.getElem?_set]
        by_cases hjm : m = j
        · subst hjm; rw [if_pos rfl, if_pos (by omega)]
        · rw [if_neg hjm]; exact hA.out j (by omega)
      have HR2 : Hid (Blk (wr.setCell ⟨w.heap.size + 1, m, none⟩ (.int .u8 59)) w.heap.size 4 #[.bool false]) := Lib.hid (hR.out.other (by simp) _)
      have HB2 : Hid (Below w.heap.size w (wr.setCell ⟨w.heap.size + 1, m, none⟩ (.int .u8 59))) := Lib.hid (hB.out.setCell (p := ⟨w.heap.size + 1, m, none⟩) (by simp) _)
      clear hst hgr hO hA hR hB hu hlen
      gi_wp2
      go_roundw
      case rel => exact ⟨m + 1, _, by go_num, by omega, HST, HA, HR2, HB2⟩
      case measure => simp [intOf]; omega
    · obtain rfl : m = 1048577 := by omega
      have h59 : ∀ (W : World) i, Below (w.heap.size + 2) wr W → i < 1048577 → W.cell? ⟨w.heap.size + 1, i, none⟩ = some (.int .u8 59) := fun W i hW hi => by
        refine (hW.cell (p := ⟨w.heap.size + 1, i, none⟩) (by simp only; omega)).trans ?_
        rw [hO.out.cellAt i (by omega)]
        exact hA.out i hi
      have hb2 : w.heap.size + 2 ≤ wr.heap.size := by
        have h := lt_of_cell (h59 wr 0 (Below.refl _ _) (by omega))
        omega
      have H59 := Lib.hid h59
      have HC := Lib.hid (fun (W : World) (hW : Below (w.heap.size + 2) wr W) => HCv.out W (w.heap.size + 1) (fun i hi => H59.out W i hW hi))
      have HG0 := Lib.hid (HG.out.below (Nat.le_refl _) hB.out)
      have HR0 := hR
      have HB0 := hB
      obtain ⟨hc1, hc2⟩ := HC.out wr (Below.refl _ _)
      clear h59 hO hA hR hB HG H59 HCv
      gi_wp2_with fail
      refine ⟨trivial, (callsIn_wide.2 (H1.out _ HG0.out)).mono ?_⟩
      rintro e w2 ⟨v2, rfl, ho2, hB2⟩
      obtain ⟨s2, c2, rfl, hcap, hr2⟩ := own_rowWc ho2 HLl.out
      have HR2 := Lib.hid hr2
      have HG2 := Lib.hid (HG0.out.below (Nat.le_refl _) hB2)
      have HB2 := Lib.hid (HB0.out.trans (hB2.mono HB0.out.size))
      have HQ2 := Lib.hid (hB2.mono hb2)
      obtain ⟨hc3, hc4⟩ := HC.out w2 HQ2.out
      have HCap := Lib.hid hcap
      have hcap1 : (524288 : Int) ≤ (c2 : Int) := by omega
      have hcap2 : (524289 : Int) ≤ (c2 : Int) := by omega
      have hcap3 : 524288 ≤ c2 := by omega
      have hcap4 : 524289 ≤ c2 := by omega
      clear hB2 ho2 hr2 HG0 HB0 hc1 hc2 hc3 hcap
      gi_wp2_with fail
      refine ⟨trivial, (callsIn_wide.2 (H2.out _ HG2.out)).mono ?_⟩
      rintro e w3 ⟨rfl, hB3⟩
      have HR3 := Lib.hid (HR2.out.below hB3)
      have HG3 := Lib.hid (HG2.out.below (Nat.le_refl _) hB3)
      have HB3 := Lib.hid (HB2.out.trans (hB3.mono HB2.out.size))
      have HQ3 := Lib.hid (HQ2.out.trans (hB3.mono (Nat.le_trans hb2 HQ2.out.size)))
      clear hB3 HR2 HG2 HB2 HQ2 hc4 H1 H2
      gi_wp2_with fail
      refine ⟨trivial, (callsIn_wide.2 (HP1.out _ s2 c2 HG3.out HR3.out)).mono ?_⟩
      rintro e w4 ⟨rfl, hB4⟩
      have HR4 := Lib.hid (HR3.out.below hB4)
      have HG4 := Lib.hid (HG3.out.below (Nat.le_refl _) hB4)
      have HB4 := Lib.hid (HB3.out.trans (hB4.mono HB3.out.size))
      have HQ4 := Lib.hid (HQ3.out.trans (hB4.mono (Nat.le_trans hb2 HQ3.out.size)))
      clear hB4 HR3 HG3 HB3 HQ3 HP1
      gi_wp2_with fail
      refine ⟨trivial, (callsIn_wide.2 (HP2.out _ s2 c2 HG4.out HR4.out)).mono ?_⟩
      rintro e w5 ⟨rfl, hB5⟩
      have HG5 := Lib.hid (HG4.out.below (Nat.le_refl _) hB5)
      have HB5 := Lib.hid (HB4.out.trans (hB5.mono HB4.out.size))
      have HQ5 := Lib.hid (HQ4.out.trans (hB5.mono (Nat.le_trans hb2 HQ4.out.size)))
      obtain ⟨_, hc6⟩ := HC.out w5 HQ5.out
      have hef := eq_func
      clear hB5 HR4 HG4 HB4 HQ4 HP2 HC
      gi_wp2_with (refine ⟨trivial, ?_⟩; gi_at_call 9; refine (callsIn_wide.2 (all_any T2 _)).mono ?_; rintro e w6 ⟨rfl, rfl⟩)
      have hR5 : Hid (Blk (w5.alloc (.cells #[.string T2] 9)) w.heap.size 4 #[.bool false]) := Lib.hid ((HR0.out.below (HQ5.out.mono (by omega)) (Nat.lt_succ_self _)).alloc _)
      have hG6 := Lib.hid (HG5.out.below (Nat.le_refl _) ((Below.refl w5.heap.size w5).alloc (Nat.le_refl _) (.cells #[.string T2] 9)))
      have hB6 : Hid (Below w.heap.size w (w5.alloc (.cells #[.string T2] 9))) := HB5.out.alloc HB5.out.size _
      have bT := Blk.new w5 9 #[.string T2]
      obtain ⟨W0, hW0⟩ : ∃ W0, w5.alloc (.cells #[.string T2] 9) = W0 := ⟨_, rfl⟩
      obtain ⟨Bn, hBn⟩ : ∃ B, w5.heap.size = B := ⟨_, rfl⟩
      rw [hW0] at hR5 hG6 hB6 bT ⊢
      rw [hBn] at bT ⊢
      clear hW0 hBn HG5 HB5 HQ5 hc6 hef
      refine wpIn_rangeFunc_ownG rfl h1 (gf := 17) (lb := #[.pointer (some ⟨Bn, 0, none⟩)]) rfl trivial (enters_of Tryd.func17 (by kernel_rfl) rfl)
        (all1_long (n - 1) Bn T2 HT2.out W0 bT) (fun _ _ => trivial) (fun _ _ _ _ _ _ _ _ => trivial) (Below.refl _ _) (fun x => x.elim)
        (fun _ W => Below W0.heap.size W0 W) (fun _ _ _ => False) (ownFrom_below (Nat.le_refl _) (Nat.le_refl _)) (fun _ _ _ _ _ hs _ _ => hs)
        (Below.refl _ _) (fun x => x.elim) ?assign ?body ?done ?stop
      case assign => intro l x; exact x.elim
      case body => intro l pre x; exact x.elim
      case stop =>
        rintro D c pre W _ _ h _
        exact h.elim
      case done =>
        rintro D ys W hD hys hB hK
        have HR6 := Lib.hid (hR5.out.below hB hR5.out.lt)
        have HG6 := Lib.hid (hG6.out.below (Nat.le_refl _) hB)
        have HB6 := Lib.hid (hB6.out.trans (hB.mono hB6.out.size))
        have HK6 := Lib.hid hK
        have hDw : w.heap.size < D := Nat.lt_of_lt_of_le hR5.out.lt hD
        clear hB hR5 hG6 hB6 bT hK hys
        gi_wp2
        gi_loopw [14] (fun T wr => ∃ (k : Nat) (t : ByteArray), T = .string t ∧ 1 ≤ k ∧ k ≤ 64 ∧ Hid (t.size = k) ∧ Hid (t.data.toList = List.replicate k 97) ∧ wr = W)
          (fun T _ => 64 - strLen T)
        case atStart => exact ⟨1, ⟨#[97]⟩, rfl, by omega, by omega, Lib.hid rfl, Lib.hid rfl, rfl⟩
        case round =>
          obtain ⟨k, t, rfl, hk1, hk2, hts, htl, rfl⟩ := hrel
          by_cases hlt : k < 64
          · have n1 : (t.size : Int) < 64 := by rw [hts.out]; omega
            have HTs : Hid ((t ++ ⟨#[97]⟩).size = k + 1) := Lib.hid (by rw [ByteArray.size_append, hts.out]; rfl)
            have HTl : Hid ((t ++ ⟨#[97]⟩).data.toList = List.replicate (k + 1) 97) := Lib.hid (by rw [ByteArray.data_append, Array.toList_append, htl.out, List.replicate_succ'])
            gi_wp2
            go_roundw
            case rel => exact ⟨k + 1, _, rfl, by omega, by omega, HTs, HTl, by first | rfl | trivial⟩
            case measure => simp only [strLen]; rw [HTs.out, hts.out]; omega
          · obtain rfl : k = 64 := by omega
            have n1 : ¬ (t.size : Int) < 64 := by rw [hts.out]; omega
            have htL : t.data.toList = aL := htl.out.trans aL_rep.symm
            have e3 : (t ++ ⟨#[32, 57, 57, 57, 57, 57, 57, 57, 57, 57]⟩).data.toList = aL ++ [32, 57, 57, 57, 57, 57, 57, 57, 57, 57] := by rw [ByteArray.data_append, Array.toList_append, htL]
            have e4 : (⟨#[59, 32]⟩ ++ t ++ ⟨#[97]⟩ : ByteArray).data.toList = [59, 32] ++ aL ++ [97] := by rw [ByteArray.data_append, ByteArray.data_append, Array.toList_append, Array.toList_append, htL]
            have s3 : (t ++ ⟨#[32, 57, 57, 57, 57, 57, 57, 57, 57, 57]⟩).size ≤ 1048576 := by rw [Lib.size_eq, e3]; decide
            have s4 : (⟨#[59, 32]⟩ ++ t ++ ⟨#[97]⟩ : ByteArray).size ≤ 1048576 := by rw [Lib.size_eq, e4]; decide
            have H3 := Lib.hid (fun W hW => lex_ok _ _ (by rw [e3]; exact lex_b1) s3 W hW)
            have H4 := Lib.hid (fun W hW => lex_bad _ 2 (by rw [e4]; exact lex_b2) s4 W hW)
            have H5 := Lib.hid (fun W hW => lex_bad ⟨#[59, 32, 49, 48, 48, 48, 48, 48, 48, 48, 48, 48]⟩ 2 lex_b3 (by decide) W hW)
            have HW := Lib.hid (fun W hW => works_any W hW)
            have htz : (t.size : Int) ≤ 64 := by rw [hts.out]; decide
            clear e3 e4 s3 s4 htL htl hts
            gi_wp2_with fail
            refine ⟨trivial, (callsIn_wide.2 (H3.out _ HG6.out)).mono ?_⟩
            rintro e w7 ⟨v7, rfl, ho7, hB7⟩
            obtain ⟨s7, c7, rfl, hr7⟩ := own_rowWn (n := 2) ho7 rfl
            obtain ⟨g7, o7, rfl, hW7⟩ := hr7 1 _ rfl
            have d7 : w7.cell? ⟨g7, o7 + 1 * 8 + 7, none⟩ = some (.int .i64 999999999) := hW7.c7
            have HD7 := Lib.hid d7
            have HR7 := Lib.hid (HR6.out.below hB7 HR6.out.lt)
            have HG7 := Lib.hid (HG6.out.below (Nat.le_refl _) hB7)
            have HB7 := Lib.hid (HB6.out.trans (hB7.mono HB6.out.size))
            have hlD := (Array.getElem?_eq_some_iff.1 HK6.out).1
            have HK7 := Lib.hid ((hB7.block D hlD).trans HK6.out)
            clear hB7 HR6 HG6 HB6 HK6 H3 d7 hW7 hr7 ho7 hlD
            gi_wp2_with fail
            refine ⟨trivial, (callsIn_wide.2 (H4.out _ HG7.out)).mono ?_⟩
            rintro e w8 ⟨rfl, hB8⟩
            have HD8 := Lib.hid ((hB8.cell (p := ⟨g7, o7 + 1 * 8 + 7, none⟩) (lt_of_cell HD7.out)).trans HD7.out)
            have HR8 := Lib.hid (HR7.out.below hB8 HR7.out.lt)
            have HG8 := Lib.hid (HG7.out.below (Nat.le_refl _) hB8)
            have HB8 := Lib.hid (HB7.out.trans (hB8.mono HB7.out.size))
            have hlD := (Array.getElem?_eq_some_iff.1 HK7.out).1
            have HK8 := Lib.hid ((hB8.block D hlD).trans HK7.out)
            clear hB8 HD7 HR7 HG7 HB7 HK7 H4 hlD
            gi_wp2_with fail
            refine ⟨trivial, (callsIn_wide.2 (H5.out _ HG8.out)).mono ?_⟩
            rintro e w9 ⟨rfl, hB9⟩
            have HD9 := Lib.hid ((hB9.cell (p := ⟨g7, o7 + 1 * 8 + 7, none⟩) (lt_of_cell HD8.out)).trans HD8.out)
            have HR9 := Lib.hid (HR8.out.below hB9 HR8.out.lt)
            have HG9 := Lib.hid (HG8.out.below (Nat.le_refl _) hB9)
            have HB9 := Lib.hid (HB8.out.trans (hB9.mono HB8.out.size))
            have hlD := (Array.getElem?_eq_some_iff.1 HK8.out).1
            have HK9 := Lib.hid ((hB9.block D hlD).trans HK8.out)
            have d9 := HD9.out
            have b9 := lt_of_cell d9
            have hS1 : ((S1.size : Int) == 1048575) = true := by rw [beq_iff_eq, HS1.out]; decide
            clear hB9 HD8 HR8 HG8 HB8 HK8 H5 hlD
            gi_wp2_with (first
              | (refine ⟨trivial, ?_⟩; gi_at_call 10; refine (callsIn_wide.2 (num_any _ _)).mono ?_; rintro e w' ⟨rfl, rfl⟩)
              | (refine ⟨trivial, ?_⟩; gi_at_call 11; refine (callsIn_wide.2 (HW.out _ HG9.out)).mono ?_; rintro e w10 ⟨rfl, hB10⟩; have HR10 := Lib.hid (HR9.out.below hB10 HR9.out.lt); have hc10 := HR10.out.cell 0; have hf10 := HR10.out.frozen 0; have hlD := (Array.getElem?_eq_some_iff.1 HK9.out).1; have HK10 := Lib.hid ((hB10.block D hlD).trans HK9.out); have HB10 := Lib.hid (HB9.out.trans (hB10.mono HB9.out.size)); clear hB10 hlD))
            have hKf : (w10.setCell ⟨w.heap.size, 0, none⟩ (.bool true)).heap[D]? = some (.deferred (some [])) := (Below.heap_setCell w10 ⟨w.heap.size, 0, none⟩ (.bool true) D (by simp only; omega)).trans HK10.out
            have hBf : Below w.heap.size w ((w10.setCell ⟨w.heap.size, 0, none⟩ (.bool true)).putObj D (.deferred none)) :=
              (HB10.out.setCell (p := ⟨w.heap.size, 0, none⟩) (Nat.le_refl _) _).trans (belowK_b (w := w) (Nat.le_refl _) _ D _ _ (by omega) hKf rfl rfl)
            have hcf : ((w10.setCell ⟨w.heap.size, 0, none⟩ (.bool true)).putObj D (.deferred none)).cell? ⟨w.heap.size, 0, none⟩ = some (.bool true) :=
              (World.cell?_of_block (World.putObj_heap_other (k := w.heap.size) (by omega))).trans (World.cell?_setCell_same' _ _ _ (by rw [hc10]; rfl))
            refine ⟨by simp, .inl ⟨_, _, rfl, run_takeDeferred hKf, ?_⟩⟩
            refine ⟨.bool true, ?_, rfl, hBf⟩
            simp [results, Tryd.f3, go_sem, hcf]
/-- DeflexBounds' law. -/
theorem lawBounds (w : World) (hG : GlobD w) : Calls Tryd.prog 3 #[] w fun e w' => e = .returned (.bool true) ∧ Below w.heap.size w w' :=
  callsIn_wide.1 (bounds_in 9 (Nat.le_refl _) w hG)
end Go.Proofs.YtdodkbpagbblmaaDoor
end
