import Derived.BigQuiet
import Derived.Test.YtdodkbpagbblmaaDoorM6
import Derived.Test.YtdodkbpagbblmaaDoorM8
section
namespace Go.Proofs.YtdodkbpagbblmaaDoor
open Go Go.RowKit

/-! ### words with gaps between -/
def gapL (g : Nat) : List Nat := if g = 0 then [32] else if g = 1 then [10] else if g = 2 then [47, 47, 10] else [9, 13, 32, 47, 47, 32, 97, 34, 91, 47, 42, 10]
theorem skip_gap (g : Nat) (l : List UInt8) : skipL (u8s (gapL g) ++ l) = (gapL g).length + skipL l := by
  unfold gapL
  by_cases h0 : g = 0
  · rw [if_pos h0]
    show skipL (32 :: l) = 1 + skipL l
    rw [skipL_blank 32 l (by decide)]
    omega
  rw [if_neg h0]
  by_cases h1 : g = 1
  · rw [if_pos h1]
    show skipL (10 :: l) = 1 + skipL l
    rw [skipL_blank 10 l (by decide)]
    omega
  rw [if_neg h1]
  by_cases h2 : g = 2
  · rw [if_pos h2]
    show skipL (47 :: 47 :: 10 :: l) = 3 + skipL l
    have e : lineL (47 :: 47 :: 10 :: l) = 2 := by simp [lineL]
    rw [skipL_comment 47 _ (by decide) (by simp [Lib.hasPrefix, List.isPrefixOf]), e]
    show 2 + skipL (10 :: l) = 3 + skipL l
    rw [skipL_blank 10 l (by decide)]
    omega
  · rw [if_neg h2]
    show skipL (9 :: 13 :: 32 :: 47 :: 47 :: 32 :: 97 :: 34 :: 91 :: 47 :: 42 :: 10 :: l) = 12 + skipL l
    have e : lineL (47 :: 47 :: 32 :: 97 :: 34 :: 91 :: 47 :: 42 :: 10 :: l) = 8 := by simp [lineL]
    rw [skipL_blank 9 _ (by decide), skipL_blank 13 _ (by decide), skipL_blank 32 _ (by decide), skipL_comment 47 _ (by decide) (by simp [Lib.hasPrefix, List.isPrefixOf]), e]
    show 8 + skipL (10 :: l) + 1 + 1 + 1 = 12 + skipL l
    rw [skipL_blank 10 l (by decide)]
    omega
theorem gapL_len (g : Nat) : 1 ≤ (gapL g).length ∧ (gapL g).length ≤ 12 := by
  unfold gapL
  split
  · simp
  · split
    · simp
    · split <;> simp
theorem u8s_len (l : List Nat) : (u8s l).length = l.length := by simp [u8s]
theorem lexAt_gap (g : Nat) (l : List UInt8) (k : Nat) : lexAt (u8s (gapL g) ++ l) k = lexAt l (k + (gapL g).length) := by
  refine lexAt_skip _ _ _ _ ?_ ?_
  · rw [skip_gap, ← u8s_len, ← List.drop_drop, List.drop_left]
  · rw [skip_gap]; omega
theorem stop_gap (g : Nat) (l : List UInt8) : Stop (u8s (gapL g) ++ l) := by
  intro c t h
  unfold gapL at h
  split at h
  · simp [u8s] at h; rw [← h.1]; rfl
  · split at h
    · simp [u8s] at h; rw [← h.1]; rfl
    · split at h
      · simp [u8s] at h; rw [← h.1]; rfl
      · simp [u8s] at h; rw [← h.1]; rfl

/-- The text of words, a gap ahead of each. -/
def textG (ps : List (Wd × Nat)) : List Nat := ps.flatMap fun p => gapL p.2 ++ wordF p.1
/-- Where they stand. -/
def placesG : List (Wd × Nat) → Nat → List (Wd × Nat)
  | [], _ => []
  | p :: ps, k => (p.1, k + (gapL p.2).length) :: placesG ps (k + (gapL p.2).length + (wordF p.1).length)
theorem textG_cons (p : Wd × Nat) (ps : List (Wd × Nat)) : textG (p :: ps) = gapL p.2 ++ wordF p.1 ++ textG ps := by simp [textG]
theorem textG_snoc (ps : List (Wd × Nat)) (p : Wd × Nat) : textG (ps ++ [p]) = textG ps ++ gapL p.2 ++ wordF p.1 := by simp [textG]
theorem placesG_snoc (ps : List (Wd × Nat)) (p : Wd × Nat) : ∀ k, placesG (ps ++ [p]) k = placesG ps k ++ [(p.1, k + (textG ps).length + (gapL p.2).length)] := by
  induction ps with
  | nil => intro k; simp [placesG, textG]
  | cons q ps ih =>
    intro k
    rw [List.cons_append]
    unfold placesG
    rw [ih, textG_cons]
    simp only [List.length_append, List.cons_append]
    have e : k + (gapL q.2).length + (wordF q.1).length + (textG ps).length + (gapL p.2).length = k + ((gapL q.2).length + (wordF q.1).length + (textG ps).length) + (gapL p.2).length := by omega
    rw [e]
theorem placesG_len (ps : List (Wd × Nat)) : ∀ k, (placesG ps k).length = ps.length := by
  induction ps with
  | nil => intro k; rfl
  | cons q ps ih => intro k; unfold placesG; rw [List.length_cons, List.length_cons, ih]
theorem placesG_fst (ps : List (Wd × Nat)) : ∀ k, (placesG ps k).map (·.1) = ps.map (·.1) := by
  induction ps with
  | nil => intro k; rfl
  | cons q ps ih => intro k; unfold placesG; rw [List.map_cons, List.map_cons, ih]
theorem stop_textG (ps : List (Wd × Nat)) (r : List UInt8) (hr : Stop r) : Stop (u8s (textG ps) ++ r) := by
  cases ps with
  | nil => exact hr
  | cons p ps =>
    rw [textG_cons, u8s_append, u8s_append, List.append_assoc, List.append_assoc]
    exact stop_gap _ _
/-- Words with gaps between are read as they were told, each at its place. -/
theorem lexAt_textG (ps : List (Wd × Nat)) : (∀ p ∈ ps, mayB p.1 = true) → ∀ r, Stop r → ∀ k, lexAt (u8s (textG ps) ++ r) k = (placesG ps k ++ (lexAt r (k + (textG ps).length)).1, (lexAt r (k + (textG ps).length)).2) := by
  induction ps with
  | nil => intro _ r _ k; rfl
  | cons p ps ih =>
    intro h r hr k
    have e : u8s (textG (p :: ps)) ++ r = u8s (gapL p.2) ++ (u8s (wordF p.1) ++ (u8s (textG ps) ++ r)) := by
      rw [textG_cons, u8s_append, u8s_append, List.append_assoc, List.append_assoc]
    have el : k + (gapL p.2).length + (wordF p.1).length + (textG ps).length = k + (textG (p :: ps)).length := by
      rw [textG_cons]
      simp only [List.length_append]
      omega
    rw [e, lexAt_gap, lexAt_word p.1 (h p (by simp)) _ (stop_textG ps r hr), ih (fun q hq => h q (by simp [hq])) r hr, el]
    rfl
theorem stop_one (c : UInt8) (t : List UInt8) (h : namB c.toNat = false) : Stop (c :: t) := fun d u e => by
  cases e; exact h
theorem lex_end1 (k : Nat) : lexAt [10, 32, 47, 47] k = ([], none) := lexAt_end _ _ (by kernel_rfl)
theorem lex_end2 (k : Nat) : lexAt [32, 35] k = ([], some (k + 1)) := by
  have h := lexAt_bad [32, 35] k (by have e : ([32, 35] : List UInt8).drop (skipL [32, 35]) = [35] := by kernel_rfl
                                     rw [e]; simp) (by kernel_rfl)
  rw [h]
  have e : skipL [32, 35] = 1 := by kernel_rfl
  rw [e]

/-- The gap that a number tells. -/
def gapAt (gs : List Int) (i : Nat) : Nat :=
  match gs[i]? with
  | some g => (bits .and .i64 g 3).toNat
  | none => 0
def psOf (l : List (Wd × Int)) (gs : List Int) : List (Wd × Nat) := l.zipIdx.map fun p => (p.1.1, gapAt gs p.2)
theorem psOf_len (l : List (Wd × Int)) (gs : List Int) : (psOf l gs).length = l.length := by simp [psOf]
theorem psOf_at (l : List (Wd × Int)) (gs : List Int) (i : Nat) (x : Wd × Int) (h : l[i]? = some x) : (psOf l gs)[i]? = some (x.1, gapAt gs i) := by
  unfold psOf
  rw [List.getElem?_map, List.getElem?_zipIdx, h]
  simp
theorem psOf_fst (l : List (Wd × Int)) (gs : List Int) : (psOf l gs).map (·.1) = l.map (·.1) := by
  apply List.ext_getElem?
  intro i
  rw [List.getElem?_map, List.getElem?_map]
  cases h : l[i]? with
  | none =>
    have : (psOf l gs)[i]? = none := by
      rw [List.getElem?_eq_none_iff] at h ⊢
      rw [psOf_len]; exact h
    rw [this]; rfl
  | some x => rw [psOf_at l gs i x h]; rfl
theorem and3 (g : Int) : ∃ q : Nat, bits .and .i64 g 3 = (q : Int) ∧ q < 4 := by
  refine ⟨(BitVec.ofInt 64 g &&& BitVec.ofInt 64 3).toNat, ?_, ?_⟩
  · show IntKind.i64.wrap ((BitVec.ofInt 64 g &&& BitVec.ofInt 64 3).toNat : Int) = _
    have h : (BitVec.ofInt 64 g &&& BitVec.ofInt 64 3).toNat < 4 := by
      rw [BitVec.toNat_and, show (BitVec.ofInt 64 3).toNat = 2 ^ 2 - 1 by decide, Nat.and_two_pow_sub_one_eq_mod]
      exact Nat.mod_lt _ (by decide)
    generalize (BitVec.ofInt 64 g &&& BitVec.ofInt 64 3).toNat = m at h
    simp [IntKind.wrap, IntKind.bits, IntKind.signed]
    omega
  · rw [BitVec.toNat_and, show (BitVec.ofInt 64 3).toNat = 2 ^ 2 - 1 by decide, Nat.and_two_pow_sub_one_eq_mod]
    exact Nat.mod_lt _ (by decide)

/-! ### one word told -/
theorem print_one (x : Wd) (ax : Int) (s : ByteArray) (er : Int) (hR : printR [(x, ax)] = (s, er)) (hf : FitW (x, ax)) (W : World) (b : Option Addr) (cb : Nat) (hG : GlobD W) (hr : RowW W b [(x, ax)]) :
    Calls Tryd.prog 8 #[.slice b 1 cb] W fun e w' => e = .returned (.tuple #[.string s, .int .i64 er]) ∧ Below W.heap.size W w' := by
  have h := print_any b cb [(x, ax)] W hG hr (by simp) (fun y hy => by
    rw [List.mem_singleton] at hy
    subst hy
    have h1 := hf.1
    unfold maxLen at h1
    exact ⟨⟨by omega, .inl (by simp)⟩, hf.2.1, hf.2.2.1⟩)
  rw [hR] at h
  exact h
theorem printR_one (x : Wd) (ax : Int) : (printR [(x, ax)] = (⟨#[]⟩, 2) ∨ printR [(x, ax)] = (⟨#[]⟩, 3)) ∨ (printR [(x, ax)] = (bytesStr (wordF x), 0) ∧ mayB x = true) := by
  rcases printR_cases [(x, ax)] with h | ⟨h1, h2, _⟩
  · exact .inl h
  · have e : joinW [(x, ax)] = wordF x := by simp [joinW, tailW]
    rw [e] at h1
    exact .inr ⟨h1, h2 (x, ax) (by simp)⟩

/-! ### numbers behind a slice -/
def RowI (w : World) (a : Option Addr) (d : List Int) : Prop :=
  ∀ (i : Nat) (x : Int), d[i]? = some x → ∃ b off, a = some ⟨b, off, none⟩ ∧ w.cell? ⟨b, off + i, none⟩ = some (.int .i64 x)
theorem RowI.below {w W : World} {a : Option Addr} {d : List Int} {n : Nat} (h : RowI w a d) (hB : Below n w W) (hn : w.heap.size ≤ n) : RowI W a d := fun i x hx => by
  obtain ⟨b, off, rfl, k⟩ := h i x hx
  have hlt := lt_of_cell k
  exact ⟨b, off, rfl, (hB.cell (p := ⟨b, off + i, none⟩) (by simp only; omega)).trans k⟩
def intV (x : Int) : Value := .int .i64 x
theorem own_rowI {w : World} {n₀ n : Nat} {v : Value} {d : List Int} (h : w.ownsRow n₀ 3 1 v n (d.map intV)) (hn : d.length = n) : ∃ a cap, v = .slice a n cap ∧ RowI w a d := by
  subst hn
  rcases h.2 with ⟨rfl, h0⟩ | ⟨g, cap, cur, rfl, _⟩
  · have : d = [] := List.length_eq_zero_iff.1 h0
    subst this
    exact ⟨none, 0, rfl, fun i x hx => by simp at hx⟩
  · refine ⟨_, cap, rfl, fun i x hx => ?_⟩
    have hi := (List.getElem?_eq_some_iff.1 hx).1
    refine ⟨g, 0, rfl, ?_⟩
    rw [Nat.zero_add, h.cellAt i (by omega), List.getElem?_map, hx]
    rfl
theorem Tryd.info3 : (Tryd.prog.info? 3).map (fun i => (i.zero, i.size, i.bytes)) = some (some (.int .i64 0), 1, 8) := by kernel_rfl

section
open Go.Deep Go.ChangeShapes Go.WideShapes
variable {H : Type} {enc : TypeId × Value → H} {w : World} {base : Nat} {spare : Nat → Bool} {held : Bool}
/-- A slice of numbers that reads as data. -/
theorem ints_open {fuel : Nat} {a : Option Addr} {len cap : Nat} {x : DataW H × List MemPlace} (h : DataW.trod enc Tryd.prog w base spare held fuel 42 [.slice a len cap] = some x) :
    ∃ d : List Int, d.length = len ∧ RowI w a d ∧ len ≤ cap ∧ (a = none → cap = 0) := by
  rcases open_slice Tryd.underlying42 h with ⟨h0, _⟩ | ⟨a', len', cap', m, n, D, Pl, hcs, _, hl, hm, hmm, _, hel⟩
  · simp at h0
    obtain ⟨rfl, rfl, rfl⟩ := h0
    exact ⟨[], rfl, fun i x hx => by simp at hx, Nat.le_refl _, fun _ => rfl⟩
  · simp at hcs
    obtain ⟨rfl, rfl, rfl⟩ := hcs
    have hlm : len ≤ m := by rw [hmm]; split <;> omega
    have hall : ∀ i, i < len → ∃ e : Int, w.cell? (a'.add (i * 1)) = some (.int .i64 e) := by
      intro i hi
      obtain ⟨cs', h1, h2⟩ := hel i (by omega)
      obtain ⟨e, rfl, _, _⟩ := DataW.trod_int Tryd.underlying3 h2
      rw [cellsOf3] at h1
      exact ⟨e, cells_ix h1 0 _ (by omega) rfl⟩
    obtain ⟨f, hf⟩ := choose_lt hall
    refine ⟨(List.range len).map f, by simp, ?_, hl, fun e => by cases e⟩
    intro i x hx
    have hi : i < len := by
      have := (List.getElem?_eq_some_iff.1 hx).1
      simpa using this
    have hx' : f i = x := by
      rw [List.getElem?_map, List.getElem?_range hi] at hx
      simpa using hx
    have q0 := hf i hi
    rw [hx'] at q0
    have hspot : a'.spot = none := by
      have := hf 0 (by omega)
      have e0 : a'.add (0 * 1) = a' := rfl
      rw [e0] at this
      exact World.cell?_spot this
    obtain ⟨b, off, spot⟩ := a'
    simp only at hspot
    subst hspot
    rw [add_off, Nat.mul_one] at q0
    exact ⟨b, off, rfl, q0⟩
end
end Go.Proofs.YtdodkbpagbblmaaDoor
end
section
namespace Go.Proofs.YtdodkbpagbblmaaDoor
open Go Go.RowKit

/-- The places of words with gaps between. -/
def dP (ps : List (Wd × Nat)) : List Int := (placesG ps 0).map fun q => (q.2 : Int)
theorem dP_len (ps : List (Wd × Nat)) : (dP ps).length = ps.length := by unfold dP; rw [List.length_map, placesG_len]
theorem dP_snoc (ps : List (Wd × Nat)) (p : Wd × Nat) : dP (ps ++ [p]) = dP ps ++ [(((textG ps).length + (gapL p.2).length : Nat) : Int)] := by
  unfold dP
  rw [placesG_snoc, List.map_append]
  simp
theorem withI_places (ps : List (Wd × Nat)) (i : Nat) (x : Wd × Int) (h : (withI (placesG ps 0))[i]? = some x) : (dP ps)[i]? = some x.2 := by
  unfold withI at h
  rw [List.getElem?_map] at h
  unfold dP
  rw [List.getElem?_map]
  cases hq : (placesG ps 0)[i]? with
  | none => rw [hq] at h; cases h
  | some q => rw [hq] at h; cases h; rfl
theorem cell_one_next3 (w : World) (o : Obj) (a0 : Value) (t : TypeId) : ∀ j u, [a0][j]? = some u → ((w.alloc o).alloc (.cells #[a0] t)).cell? ((⟨w.heap.size + 1, 0, none⟩ : Addr).add j) = some u := cell_one_next w o a0 t
theorem rowW_new (w : World) (x : Wd) (ax : Int) : RowW (w.alloc (.cells (wordC x ax) 38)) (some ⟨w.heap.size, 0, none⟩) [(x, ax)] := by
  have hb := Blk.new w 38 (wordC x ax)
  intro i y hy
  cases i with
  | zero =>
    simp at hy
    subst hy
    exact ⟨w.heap.size, 0, rfl, hb.cell 0, hb.cell 1, hb.cell 2, hb.cell 3, hb.cell 4, hb.cell 5, hb.cell 6, hb.cell 7⟩
  | succ i => simp at hy

set_option maxRecDepth 100000 in
set_option maxHeartbeats 4000000 in
theorem lawGaps_many (a : Option Addr) (cap : Nat) (l : List (Wd × Int)) (b : Option Addr) (gc gn : Nat) (w : World) (hG : GlobD w) (h : 100 < l.length) :
    Calls Tryd.prog 5 #[.slice a l.length cap, .slice b gn gc] w fun e w' => e = .returned (.bool true) ∧ Below w.heap.size w w' := by
  have HW := Lib.hid (works_any w hG)
  have n1 : (100 : Int) < (l.length : Int) := by omega
  clear hG h
  go_enter Tryd.func5, Tryd.ntmps5
  go_wp2_with (go_at_call 11; refine HW.out.mono ?_; rintro e w1 ⟨rfl, hB⟩)
  go_ret
  exact ⟨rfl, hB⟩

set_option maxRecDepth 100000 in
set_option maxHeartbeats 32000000 in
theorem lawGaps_few (a : Option Addr) (cap : Nat) (l : List (Wd × Int)) (b : Option Addr) (gc : Nat) (gs : List Int) (w : World) (hG : GlobD w) (hl : RowW w a l) (hf : ∀ y ∈ l, FitW y) (hg : RowI w b gs) (hn : l.length ≤ 100) :
    Calls Tryd.prog 5 #[.slice a l.length cap, .slice b gs.length gc] w fun e w' => e = .returned (.bool true) ∧ Below w.heap.size w w' := by
  obtain ⟨i0, hi, hz0, hz1, hz2⟩ := info_parts Tryd.info3
  have HW := Lib.hid (fun W hW => works_any W hW)
  have HG := Lib.hid hG
  have HD := Lib.hid hl
  have HX := Lib.hid hf
  have HI := Lib.hid hg
  obtain ⟨n, hnn⟩ : ∃ n, n = l.length := ⟨_, rfl⟩
  obtain ⟨gn, hgn⟩ : ∃ gn, gn = gs.length := ⟨_, rfl⟩
  have HN : Hid (l.length = n) := hnn.symm
  have HGn : Hid (gs.length = gn) := hgn.symm
  rw [← hnn] at hn ⊢
  rw [← hgn]
  have n1 : ¬ (100 : Int) < (n : Int) := by omega
  obtain ⟨ps, hps⟩ : ∃ ps, ps = psOf l gs := ⟨_, rfl⟩
  have HPl : Hid (ps.length = n) := Lib.hid (by rw [hps, psOf_len]; exact hnn.symm)
  have HPa : Hid (∀ i x, l[i]? = some x → ps[i]? = some (x.1, gapAt gs i)) := Lib.hid fun i x h => by rw [hps]; exact psOf_at l gs i x h
  have HPf : Hid (ps.map (·.1) = l.map (·.1)) := Lib.hid (by rw [hps]; exact psOf_fst l gs)
  have hO0 : Hid (w.ownsRow w.heap.size 3 1 (.slice none 0 0) 0 ((dP (ps.take 0)).map intV)) := World.ownsRow_nil _ _ _ _
  clear hG hl hf hg hnn hgn hps
  go_enter Tryd.func5, Tryd.ntmps5
  go_wp2
  go_loopw [5, 6, 7] (fun T v i wr => ∃ (m : Nat) (t : ByteArray), T = .string t ∧ i = .int .i64 m ∧ m ≤ n ∧ t.size ≤ 212 * m ∧ Hid (t.data.toList = u8s (textG (ps.take m))) ∧ Hid (∀ p ∈ ps.take m, mayB p.1 = true) ∧ Hid (wr.ownsRow w.heap.size 3 1 v m ((dP (ps.take m)).map intV)) ∧ Hid (Below w.heap.size w wr))
    (fun _ _ i _ => n - (intOf i).toNat)
  case atStart => exact ⟨0, ⟨#[]⟩, rfl, rfl, Nat.zero_le _, Nat.le_refl _, Lib.hid (by simp [textG, u8s]), Lib.hid (by simp), hO0, Below.refl _ _⟩
  case round =>
    clear hO0
    obtain ⟨m, t, rfl, rfl, hm, hts, hT, hA, hO, hB⟩ := hrel
    have hszr := hB.out.size
    by_cases hlt : m < n
    · have n3 : (m : Int) < (n : Int) := by omega
      have HXm : Hid (l[m]? = some (l[m]'(by rw [HN.out]; exact hlt))) := Lib.hid (List.getElem?_eq_getElem _)
      obtain ⟨x, hxe⟩ : ∃ x, l[m]'(by rw [HN.out]; exact hlt) = x := ⟨_, rfl⟩
      rw [hxe] at HXm
      clear hxe
      have HF := Lib.hid (HX.out x (List.mem_of_getElem? HXm.out))
      have HTk : Hid (ps.take (m + 1) = ps.take m ++ [(x.1, gapAt gs m)]) := Lib.hid (by rw [List.take_add_one, HPa.out m x HXm.out]; rfl)
      obtain ⟨x, ax⟩ := x
      obtain ⟨g, off, rfl, hW⟩ := HD.out m _ HXm.out
      have hW := hW.below hB.out hW.lt
      have bg := hW.lt
      obtain ⟨c0, c1, c2, c3, c4, c5, c6, c7⟩ := hW
      dsimp only at c0 c1 c2 c3 c4 c5 c6 c7
      have HB0 : Hid (Below w.heap.size w (wr.alloc (.cells (wordC x ax) 38))) := hB.out.alloc hszr _
      have HO0 : Hid ((wr.alloc (.cells (wordC x ax) 38)).ownsRow w.heap.size 3 1 u6 m ((dP (ps.take m)).map intV)) := hO.out.alloc _
      have HG0 := Lib.hid (HG.out.below (Nat.le_refl _) HB0.out)
      have HR0 := Lib.hid (rowW_new wr x ax)
      have hsz0 : w.heap.size ≤ (wr.alloc (.cells (wordC x ax) 38)).heap.size := HB0.out.size
      clear hO HXm
      rcases printR_one x ax with hp | ⟨hp, hmay⟩
      · obtain ⟨er, her, hpe⟩ : ∃ er : Int, er ≠ 0 ∧ printR [(x, ax)] = (⟨#[]⟩, er) := by
          rcases hp with hp | hp
          · exact ⟨2, by decide, hp⟩
          · exact ⟨3, by decide, hp⟩
        have he0 : (er == (0 : Int)) = false := by rw [beq_eq_false_iff_ne]; exact her
        have he1 : (er != (0 : Int)) = true := by rw [bne_iff_ne]; exact her
        have HP := Lib.hid (print_one x ax ⟨#[]⟩ er hpe HF.out (wr.alloc (.cells (wordC x ax) 38)) (some ⟨wr.heap.size, 0, none⟩) 1 HG0.out HR0.out)
        unfold wordC at HB0 HO0 HG0 HR0 hsz0 HP
        clear hp hpe her HTk HO0 hT hA
        go_wp2_with fail
        refine HP.out.mono ?_
        rintro e w1 ⟨rfl, hB1⟩
        have HG1 := Lib.hid (HG0.out.below (Nat.le_refl _) hB1)
        have HB1 := Lib.hid (HB0.out.trans (hB1.mono HB0.out.size))
        clear hB1 HP HR0 HG0
        go_wp2_with (first
          | (go_at_call 10; refine (num_any _ _).mono ?_; rintro e w' ⟨rfl, rfl⟩)
          | (go_at_call 11; refine (HW.out _ HG1.out).mono ?_; rintro e w2 ⟨rfl, hB2⟩))
        go_ret
        exact ⟨rfl, HB1.out.trans (hB2.mono HB1.out.size)⟩
      · have hsl : (bytesStr (wordF x)).size = (wordF x).length := bytesStr_size _
        obtain ⟨s, hs⟩ : ∃ s, s = bytesStr (wordF x) := ⟨_, rfl⟩
        have HP := Lib.hid (print_one x ax _ 0 hp HF.out (wr.alloc (.cells (wordC x ax) 38)) (some ⟨wr.heap.size, 0, none⟩) 1 HG0.out HR0.out)
        have HS : Hid (s.data.toList = u8s (wordF x)) := Lib.hid (by rw [hs, bytesStr_list]; rfl)
        rw [← hs] at HP hsl
        unfold wordC at HB0 HO0 HG0 HR0 hsz0 HP
        clear hp hs
        have HSl := Lib.hid hsl
        clear hsl
        by_cases hlong : 200 < s.size
        · have n4 : (200 : Int) < (s.size : Int) := by omega
          clear HTk HO0 hT hA
          go_wp2_with fail
          refine HP.out.mono ?_
          rintro e w1 ⟨rfl, hB1⟩
          have HG1 := Lib.hid (HG0.out.below (Nat.le_refl _) hB1)
          have HB1 := Lib.hid (HB0.out.trans (hB1.mono HB0.out.size))
          clear hB1 HP HR0 HG0
          go_wp2_with (first
            | (go_at_call 10; refine (num_any _ _).mono ?_; rintro e w' ⟨rfl, rfl⟩)
            | (go_at_call 11; refine (HW.out _ HG1.out).mono ?_; rintro e w2 ⟨rfl, hB2⟩))
          go_ret
          exact ⟨rfl, HB1.out.trans (hB2.mono HB1.out.size)⟩
        · have n4 : ¬ (200 : Int) < (s.size : Int) := by omega
          have HA2 : Hid (∀ p ∈ ps.take (m + 1), mayB p.1 = true) := by
            refine Lib.hid ?_
            rw [HTk.out]
            intro p hp
            rw [List.mem_append] at hp
            rcases hp with hp | hp
            · exact hA.out p hp
            · rw [List.mem_singleton] at hp; rw [hp]; exact hmay
          go_wp2_with fail
          refine HP.out.mono ?_
          rintro e w1 ⟨rfl, hB1⟩
          have HI1 := Lib.hid (HI.out.below (HB0.out.trans (hB1.mono HB0.out.size)) (Nat.le_refl _))
          have HO1 := Lib.hid (own_below HO0.out hB1 (Nat.le_refl _))
          have HB1 := Lib.hid (HB0.out.trans (hB1.mono HB0.out.size))
          clear hB1 HP HR0 HG0 HO0 HB0 hA
          have hsz1 := HB1.out.size
          -- which gap
          obtain ⟨q, hq4, hqg⟩ : ∃ q : Nat, q < 4 ∧ Hid (gapAt gs m = q) ∧ ((¬ (m : Int) < (gn : Int) ∧ q = 0) ∨ ((m : Int) < (gn : Int) ∧ ∃ gv gb go, b = some ⟨gb, go, none⟩ ∧ w1.cell? ⟨gb, go + m, none⟩ = some (.int .i64 gv) ∧ gb < w1.heap.size ∧ bits .and .i64 gv 3 = (q : Int))) := by
            by_cases hmg : m < gn
            · have hx : gs[m]? = some (gs[m]'(by rw [HGn.out]; exact hmg)) := List.getElem?_eq_getElem _
              obtain ⟨gb, go, hb, hc⟩ := HI1.out m _ hx
              obtain ⟨q, hq, hq4⟩ := and3 (gs[m]'(by rw [HGn.out]; exact hmg))
              refine ⟨q, hq4, ?_, .inr ⟨by omega, _, gb, go, hb, hc, lt_of_cell hc, hq⟩⟩
              refine Lib.hid ?_
              unfold gapAt
              rw [hx]
              simp only
              rw [hq]
              rfl
            · refine ⟨0, by decide, ?_, .inl ⟨by omega, rfl⟩⟩
              refine Lib.hid ?_
              unfold gapAt
              rw [List.getElem?_eq_none (by rw [HGn.out]; omega)]
          obtain ⟨HQ, hcase⟩ := hqg
          rw [HQ.out] at HTk
          clear HQ HI1
          rcases hcase with ⟨n5, rfl⟩ | ⟨n5, gv, gb, go, rfl, hgc, hgb, hgq⟩
          · have hTX : (t ++ ⟨#[32]⟩).data.toList = u8s (textG (ps.take m) ++ gapL 0) := by rw [u8s_append, ← hT.out]; simp [ByteArray.data_append, gapL, u8s]
            have HTX : Hid ((t ++ ⟨#[32]⟩ ++ s).data.toList = u8s (textG (ps.take (m + 1)))) := Lib.hid (by rw [HTk.out, textG_snoc, u8s_append, ← hTX, ← HS.out]; simp [ByteArray.data_append])
            have hsz : (t ++ ⟨#[32]⟩).size = t.size + 1 := by simp [ByteArray.size_append]; rfl
            have hdp : dP (ps.take (m + 1)) = dP (ps.take m) ++ [((t.size + 1 : Nat) : Int)] := by
              have e1 := congrArg List.length hT.out
              rw [u8s_len, ← Lib.size_eq] at e1
              rw [HTk.out, dP_snoc, ← e1]
              rfl
            have HDP : Hid ((dP (ps.take (m + 1))).map intV = (dP (ps.take m)).map intV ++ [.int .i64 ((t.size : Int) + 1)]) := Lib.hid (by rw [hdp, List.map_append]; simp [intV])
            have HSZ : Hid ((t ++ ⟨#[32]⟩ ++ s).size ≤ 212 * (m + 1)) := Lib.hid (by rw [ByteArray.size_append, hsz]; omega)
            clear hTX hsz hdp hT HS HTk
            go_wp2_with (first
              | (go_at_call 10; refine (num_any _ _).mono ?_; rintro e w' ⟨rfl, rfl⟩)
              | (at_builtin; refine wpList_append_own _ rfl _ _ 42 rfl w.heap.size 3 i0 (.int .i64 0) 1 8 Tryd.underlying42 hi hz0 hz1 hz2 rfl (by decide) _ _ _ rfl ((HO1.out.alloc _).alloc _) ⟨w1.heap.size + 1, 0, none⟩ 1 1 [.int .i64 ((t.size : Int) + 1)] rfl rfl (cell_one_next3 _ _ _ _) (by simp [Value.oneCell']) (by unfold maxLen; omega) (by omega) (by simp; omega) ?_; intro v2 w2 hown2 hgrow _))
            have hB2 : Below w.heap.size w1 ((w1.alloc (.cells #[.string ⟨#[32]⟩, .string ⟨#[10]⟩, .string ⟨#[47, 47, 10]⟩, .string ⟨#[9, 13, 32, 47, 47, 32, 97, 34, 91, 47, 42, 10]⟩] 9)).alloc (.cells #[.int .i64 ((t.size : Int) + 1)] 3)) := ((Below.refl _ w1).alloc hsz1 _).alloc (by simp; omega) _
            have hB3 := hB2.grown hgrow (by simp; omega) (fun i e => (HO1.out.lt i e).1)
            have HB4 := Lib.hid (HB1.out.trans hB3)
            have HO2 : Hid (w2.ownsRow w.heap.size 3 1 v2 (m + 1) ((dP (ps.take (m + 1))).map intV)) := Lib.hid (by rw [HDP.out]; exact hown2)
            clear hown2 hgrow hB2 hB3 HO1 HB1 HDP
            go_wp2
            go_roundw
            case rel => exact ⟨m + 1, _, rfl, by go_num, by omega, HSZ.out, HTX, HA2, HO2, HB4⟩
            case measure => simp [intOf]; omega
          · obtain rfl | rfl | rfl | rfl : q = 0 ∨ q = 1 ∨ q = 2 ∨ q = 3 := by omega
            · have hTX : (t ++ ⟨#[32]⟩).data.toList = u8s (textG (ps.take m) ++ gapL 0) := by rw [u8s_append, ← hT.out]; simp [ByteArray.data_append, gapL, u8s]
              have HTX : Hid ((t ++ ⟨#[32]⟩ ++ s).data.toList = u8s (textG (ps.take (m + 1)))) := Lib.hid (by rw [HTk.out, textG_snoc, u8s_append, ← hTX, ← HS.out]; simp [ByteArray.data_append])
              have hsz : (t ++ ⟨#[32]⟩).size = t.size + 1 := by simp [ByteArray.size_append]; rfl
              have hdp : dP (ps.take (m + 1)) = dP (ps.take m) ++ [((t.size + 1 : Nat) : Int)] := by
                have e1 := congrArg List.length hT.out
                rw [u8s_len, ← Lib.size_eq] at e1
                rw [HTk.out, dP_snoc, ← e1]
                rfl
              have HDP : Hid ((dP (ps.take (m + 1))).map intV = (dP (ps.take m)).map intV ++ [.int .i64 ((t.size : Int) + 1)]) := Lib.hid (by rw [hdp, List.map_append]; simp [intV])
              have HSZ : Hid ((t ++ ⟨#[32]⟩ ++ s).size ≤ 212 * (m + 1)) := Lib.hid (by rw [ByteArray.size_append, hsz]; omega)
              clear hTX hsz hdp hT HS HTk
              go_wp2_with (first
                | (go_at_call 10; refine (num_any _ _).mono ?_; rintro e w' ⟨rfl, rfl⟩)
                | (at_builtin; refine wpList_append_own _ rfl _ _ 42 rfl w.heap.size 3 i0 (.int .i64 0) 1 8 Tryd.underlying42 hi hz0 hz1 hz2 rfl (by decide) _ _ _ rfl ((HO1.out.alloc _).alloc _) ⟨w1.heap.size + 1, 0, none⟩ 1 1 [.int .i64 ((t.size : Int) + 1)] rfl rfl (cell_one_next3 _ _ _ _) (by simp [Value.oneCell']) (by unfold maxLen; omega) (by omega) (by simp; omega) ?_; intro v2 w2 hown2 hgrow _))
              have hB2 : Below w.heap.size w1 ((w1.alloc (.cells #[.string ⟨#[32]⟩, .string ⟨#[10]⟩, .string ⟨#[47, 47, 10]⟩, .string ⟨#[9, 13, 32, 47, 47, 32, 97, 34, 91, 47, 42, 10]⟩] 9)).alloc (.cells #[.int .i64 ((t.size : Int) + 1)] 3)) := ((Below.refl _ w1).alloc hsz1 _).alloc (by simp; omega) _
              have hB3 := hB2.grown hgrow (by simp; omega) (fun i e => (HO1.out.lt i e).1)
              have HB4 := Lib.hid (HB1.out.trans hB3)
              have HO2 : Hid (w2.ownsRow w.heap.size 3 1 v2 (m + 1) ((dP (ps.take (m + 1))).map intV)) := Lib.hid (by rw [HDP.out]; exact hown2)
              clear hown2 hgrow hB2 hB3 HO1 HB1 HDP
              go_wp2
              go_roundw
              case rel => exact ⟨m + 1, _, rfl, by go_num, by omega, HSZ.out, HTX, HA2, HO2, HB4⟩
              case measure => simp [intOf]; omega
            · have hTX : (t ++ ⟨#[10]⟩).data.toList = u8s (textG (ps.take m) ++ gapL 1) := by rw [u8s_append, ← hT.out]; simp [ByteArray.data_append, gapL, u8s]
              have HTX : Hid ((t ++ ⟨#[10]⟩ ++ s).data.toList = u8s (textG (ps.take (m + 1)))) := Lib.hid (by rw [HTk.out, textG_snoc, u8s_append, ← hTX, ← HS.out]; simp [ByteArray.data_append])
              have hsz : (t ++ ⟨#[10]⟩).size = t.size + 1 := by simp [ByteArray.size_append]; rfl
              have hdp : dP (ps.take (m + 1)) = dP (ps.take m) ++ [((t.size + 1 : Nat) : Int)] := by
                have e1 := congrArg List.length hT.out
                rw [u8s_len, ← Lib.size_eq] at e1
                rw [HTk.out, dP_snoc, ← e1]
                rfl
              have HDP : Hid ((dP (ps.take (m + 1))).map intV = (dP (ps.take m)).map intV ++ [.int .i64 ((t.size : Int) + 1)]) := Lib.hid (by rw [hdp, List.map_append]; simp [intV])
              have HSZ : Hid ((t ++ ⟨#[10]⟩ ++ s).size ≤ 212 * (m + 1)) := Lib.hid (by rw [ByteArray.size_append, hsz]; omega)
              clear hTX hsz hdp hT HS HTk
              go_wp2_with (first
                | (go_at_call 10; refine (num_any _ _).mono ?_; rintro e w' ⟨rfl, rfl⟩)
                | (at_builtin; refine wpList_append_own _ rfl _ _ 42 rfl w.heap.size 3 i0 (.int .i64 0) 1 8 Tryd.underlying42 hi hz0 hz1 hz2 rfl (by decide) _ _ _ rfl ((HO1.out.alloc _).alloc _) ⟨w1.heap.size + 1, 0, none⟩ 1 1 [.int .i64 ((t.size : Int) + 1)] rfl rfl (cell_one_next3 _ _ _ _) (by simp [Value.oneCell']) (by unfold maxLen; omega) (by omega) (by simp; omega) ?_; intro v2 w2 hown2 hgrow _))
              have hB2 : Below w.heap.size w1 ((w1.alloc (.cells #[.string ⟨#[32]⟩, .string ⟨#[10]⟩, .string ⟨#[47, 47, 10]⟩, .string ⟨#[9, 13, 32, 47, 47, 32, 97, 34, 91, 47, 42, 10]⟩] 9)).alloc (.cells #[.int .i64 ((t.size : Int) + 1)] 3)) := ((Below.refl _ w1).alloc hsz1 _).alloc (by simp; omega) _
              have hB3 := hB2.grown hgrow (by simp; omega) (fun i e => (HO1.out.lt i e).1)
              have HB4 := Lib.hid (HB1.out.trans hB3)
              have HO2 : Hid (w2.ownsRow w.heap.size 3 1 v2 (m + 1) ((dP (ps.take (m + 1))).map intV)) := Lib.hid (by rw [HDP.out]; exact hown2)
              clear hown2 hgrow hB2 hB3 HO1 HB1 HDP
              go_wp2
              go_roundw
              case rel => exact ⟨m + 1, _, rfl, by go_num, by omega, HSZ.out, HTX, HA2, HO2, HB4⟩
              case measure => simp [intOf]; omega
            · have hTX : (t ++ ⟨#[47, 47, 10]⟩).data.toList = u8s (textG (ps.take m) ++ gapL 2) := by rw [u8s_append, ← hT.out]; simp [ByteArray.data_append, gapL, u8s]
              have HTX : Hid ((t ++ ⟨#[47, 47, 10]⟩ ++ s).data.toList = u8s (textG (ps.take (m + 1)))) := Lib.hid (by rw [HTk.out, textG_snoc, u8s_append, ← hTX, ← HS.out]; simp [ByteArray.data_append])
              have hsz : (t ++ ⟨#[47, 47, 10]⟩).size = t.size + 3 := by simp [ByteArray.size_append]; rfl
              have hdp : dP (ps.take (m + 1)) = dP (ps.take m) ++ [((t.size + 3 : Nat) : Int)] := by
                have e1 := congrArg List.length hT.out
                rw [u8s_len, ← Lib.size_eq] at e1
                rw [HTk.out, dP_snoc, ← e1]
                rfl
              have HDP : Hid ((dP (ps.take (m + 1))).map intV = (dP (ps.take m)).map intV ++ [.int .i64 ((t.size : Int) + 3)]) := Lib.hid (by rw [hdp, List.map_append]; simp [intV])
              have HSZ : Hid ((t ++ ⟨#[47, 47, 10]⟩ ++ s).size ≤ 212 * (m + 1)) := Lib.hid (by rw [ByteArray.size_append, hsz]; omega)
              clear hTX hsz hdp hT HS HTk
              go_wp2_with (first
                | (go_at_call 10; refine (num_any _ _).mono ?_; rintro e w' ⟨rfl, rfl⟩)
                | (at_builtin; refine wpList_append_own _ rfl _ _ 42 rfl w.heap.size 3 i0 (.int .i64 0) 1 8 Tryd.underlying42 hi hz0 hz1 hz2 rfl (by decide) _ _ _ rfl ((HO1.out.alloc _).alloc _) ⟨w1.heap.size + 1, 0, none⟩ 1 1 [.int .i64 ((t.size : Int) + 3)] rfl rfl (cell_one_next3 _ _ _ _) (by simp [Value.oneCell']) (by unfold maxLen; omega) (by omega) (by simp; omega) ?_; intro v2 w2 hown2 hgrow _))
              have hB2 : Below w.heap.size w1 ((w1.alloc (.cells #[.string ⟨#[32]⟩, .string ⟨#[10]⟩, .string ⟨#[47, 47, 10]⟩, .string ⟨#[9, 13, 32, 47, 47, 32, 97, 34, 91, 47, 42, 10]⟩] 9)).alloc (.cells #[.int .i64 ((t.size : Int) + 3)] 3)) := ((Below.refl _ w1).alloc hsz1 _).alloc (by simp; omega) _
              have hB3 := hB2.grown hgrow (by simp; omega) (fun i e => (HO1.out.lt i e).1)
              have HB4 := Lib.hid (HB1.out.trans hB3)
              have HO2 : Hid (w2.ownsRow w.heap.size 3 1 v2 (m + 1) ((dP (ps.take (m + 1))).map intV)) := Lib.hid (by rw [HDP.out]; exact hown2)
              clear hown2 hgrow hB2 hB3 HO1 HB1 HDP
              go_wp2
              go_roundw
              case rel => exact ⟨m + 1, _, rfl, by go_num, by omega, HSZ.out, HTX, HA2, HO2, HB4⟩
              case measure => simp [intOf]; omega
            · have hTX : (t ++ ⟨#[9, 13, 32, 47, 47, 32, 97, 34, 91, 47, 42, 10]⟩).data.toList = u8s (textG (ps.take m) ++ gapL 3) := by rw [u8s_append, ← hT.out]; simp [ByteArray.data_append, gapL, u8s]
              have HTX : Hid ((t ++ ⟨#[9, 13, 32, 47, 47, 32, 97, 34, 91, 47, 42, 10]⟩ ++ s).data.toList = u8s (textG (ps.take (m + 1)))) := Lib.hid (by rw [HTk.out, textG_snoc, u8s_append, ← hTX, ← HS.out]; simp [ByteArray.data_append])
              have hsz : (t ++ ⟨#[9, 13, 32, 47, 47, 32, 97, 34, 91, 47, 42, 10]⟩).size = t.size + 12 := by simp [ByteArray.size_append]; rfl
              have hdp : dP (ps.take (m + 1)) = dP (ps.take m) ++ [((t.size + 12 : Nat) : Int)] := by
                have e1 := congrArg List.length hT.out
                rw [u8s_len, ← Lib.size_eq] at e1
                rw [HTk.out, dP_snoc, ← e1]
                rfl
              have HDP : Hid ((dP (ps.take (m + 1))).map intV = (dP (ps.take m)).map intV ++ [.int .i64 ((t.size : Int) + 12)]) := Lib.hid (by rw [hdp, List.map_append]; simp [intV])
              have HSZ : Hid ((t ++ ⟨#[9, 13, 32, 47, 47, 32, 97, 34, 91, 47, 42, 10]⟩ ++ s).size ≤ 212 * (m + 1)) := Lib.hid (by rw [ByteArray.size_append, hsz]; omega)
              clear hTX hsz hdp hT HS HTk
              go_wp2_with (first
                | (go_at_call 10; refine (num_any _ _).mono ?_; rintro e w' ⟨rfl, rfl⟩)
                | (at_builtin; refine wpList_append_own _ rfl _ _ 42 rfl w.heap.size 3 i0 (.int .i64 0) 1 8 Tryd.underlying42 hi hz0 hz1 hz2 rfl (by decide) _ _ _ rfl ((HO1.out.alloc _).alloc _) ⟨w1.heap.size + 1, 0, none⟩ 1 1 [.int .i64 ((t.size : Int) + 12)] rfl rfl (cell_one_next3 _ _ _ _) (by simp [Value.oneCell']) (by unfold maxLen; omega) (by omega) (by simp; omega) ?_; intro v2 w2 hown2 hgrow _))
              have hB2 : Below w.heap.size w1 ((w1.alloc (.cells #[.string ⟨#[32]⟩, .string ⟨#[10]⟩, .string ⟨#[47, 47, 10]⟩, .string ⟨#[9, 13, 32, 47, 47, 32, 97, 34, 91, 47, 42, 10]⟩] 9)).alloc (.cells #[.int .i64 ((t.size : Int) + 12)] 3)) := ((Below.refl _ w1).alloc hsz1 _).alloc (by simp; omega) _
              have hB3 := hB2.grown hgrow (by simp; omega) (fun i e => (HO1.out.lt i e).1)
              have HB4 := Lib.hid (HB1.out.trans hB3)
              have HO2 : Hid (w2.ownsRow w.heap.size 3 1 v2 (m + 1) ((dP (ps.take (m + 1))).map intV)) := Lib.hid (by rw [HDP.out]; exact hown2)
              clear hown2 hgrow hB2 hB3 HO1 HB1 HDP
              go_wp2
              go_roundw
              case rel => exact ⟨m + 1, _, rfl, by go_num, by omega, HSZ.out, HTX, HA2, HO2, HB4⟩
              case measure => simp [intOf]; omega
    · obtain rfl : m = n := by omega
      have htk : ps.take m = ps := List.take_of_length_le (by rw [HPl.out]; exact Nat.le_refl _)
      rw [htk] at hT hA hO
      clear htk
      have HK : Hid ((placesG ps 0).length = m) := Lib.hid (by rw [placesG_len]; exact HPl.out)
      have hlex1 : lexAt (t ++ ⟨#[10, 32, 47, 47]⟩).data.toList 0 = (placesG ps 0, none) := by
        have e : (t ++ ⟨#[10, 32, 47, 47]⟩).data.toList = u8s (textG ps) ++ [10, 32, 47, 47] := by rw [← hT.out]; simp [ByteArray.data_append]
        rw [e, lexAt_textG ps hA.out _ (stop_one 10 _ (by decide)), lex_end1]
        simp
      have hlex2 : (lexAt (t ++ ⟨#[32, 35]⟩).data.toList 0).2 = some (t.size + 1) := by
        have e : (t ++ ⟨#[32, 35]⟩).data.toList = u8s (textG ps) ++ [32, 35] := by rw [← hT.out]; simp [ByteArray.data_append]
        have e1 := congrArg List.length hT.out
        rw [u8s_len, ← Lib.size_eq] at e1
        rw [e, lexAt_textG ps hA.out _ (stop_one 32 _ (by decide)), lex_end2, e1]
        simp
      have hsA : (t ++ ⟨#[10, 32, 47, 47]⟩).size = t.size + 4 := by simp [ByteArray.size_append]; rfl
      have hsB : (t ++ ⟨#[32, 35]⟩).size = t.size + 2 := by simp [ByteArray.size_append]; rfl
      have H1 := Lib.hid (fun W hW => lex_ok (t ++ ⟨#[10, 32, 47, 47]⟩) (placesG ps 0) hlex1 (by omega) W hW)
      have H2 := fun W hW => lex_bad (t ++ ⟨#[32, 35]⟩) (t.size + 1) hlex2 (by omega) W hW
      obtain ⟨pl, hpl⟩ : ∃ pl : Int, pl = ((t.size + 1 : Nat) : Int) := ⟨_, rfl⟩
      rw [← hpl] at H2
      have hpe : (pl == (t.size : Int) + 1) = true := by rw [beq_iff_eq, hpl]; push_cast; omega
      have H2 := Lib.hid H2
      have HS := Lib.hid (same_of (withI (placesG ps 0)) l m m (by rw [withI_len]; exact HK.out) HN.out (by omega) (by omega) (sameL_fst _ _ (by rw [withI_fst, placesG_fst]; exact HPf.out)))
      have HD0 := Lib.hid (HD.out.below hB.out)
      have HG0 := Lib.hid (HG.out.below (Nat.le_refl _) hB.out)
      have hdl : (dP ps).length = m := by rw [dP_len]; exact HPl.out
      obtain ⟨sp, cp, rfl, hrp⟩ := own_rowI hO.out hdl
      have HQ0 := Lib.hid hrp
      have HB0 := hB
      clear hB HD HG hszr hlex1 hlex2 hsA hsB hpl hO hrp hdl hT hA HPa HX
      go_wp2_with fail
      refine (H1.out _ HG0.out).mono ?_
      rintro e w1 ⟨v1, rfl, ho1, hB1⟩
      obtain ⟨s1, c1, rfl, hr1⟩ := own_rowWn ho1 HK.out
      have HR1 := Lib.hid hr1
      have HD1 := Lib.hid (HD0.out.below hB1)
      have HQ1 := Lib.hid (HQ0.out.below hB1 (Nat.le_refl _))
      have HG1 := Lib.hid (HG0.out.below (Nat.le_refl _) hB1)
      have HB1 := Lib.hid (HB0.out.trans (hB1.mono HB0.out.size))
      clear hB1 ho1 hr1 HD0 HG0 HB0 HQ0 H1
      go_wp2_with (first
        | (go_at_call 10; refine (num_any _ _).mono ?_; rintro e w' ⟨rfl, rfl⟩)
        | (go_at_call 12; refine (HS.out _ s1 a c1 cap HR1.out HD1.out).mono ?_; rintro e w2 ⟨rfl, hB2⟩; have HR2 := Lib.hid (HR1.out.below hB2); have HQ2 := Lib.hid (HQ1.out.below hB2 (Nat.le_refl _)); have HG2 := Lib.hid (HG1.out.below (Nat.le_refl _) hB2); have HB2 := Lib.hid (HB1.out.trans (hB2.mono HB1.out.size)); clear hB2))
      clear HS HR1 HQ1 HG1 HB1 HD1
      have HKl : Hid ((withI (placesG ps 0)).length = m) := Lib.hid (by rw [withI_len]; exact HK.out)
      obtain ⟨wq, hwq⟩ : ∃ wq : World, wq = w2 := ⟨_, rfl⟩
      rw [← hwq] at HR2 HQ2 HG2 HB2 ⊢
      clear hwq
      go_loopw [14] (fun i wr => ∃ k : Nat, i = .int .i64 k ∧ k ≤ m ∧ Hid (Below wq.heap.size wq wr))
        (fun i _ => m - (intOf i).toNat)
      case atStart => exact ⟨0, rfl, Nat.zero_le _, Below.refl _ _⟩
      case round =>
        obtain ⟨k, rfl, hk, hB⟩ := hrel
        have hszr := hB.out.size
        by_cases hlt : k < m
        · have n4 : (k : Int) < (m : Int) := by omega
          have HY : Hid ((withI (placesG ps 0))[k]? = some ((withI (placesG ps 0))[k]'(by rw [HKl.out]; exact hlt))) := Lib.hid (List.getElem?_eq_getElem _)
          obtain ⟨y, hye⟩ : ∃ y, (withI (placesG ps 0))[k]'(by rw [HKl.out]; exact hlt) = y := ⟨_, rfl⟩
          rw [hye] at HY
          clear hye
          have hdy := withI_places ps k y HY.out
          obtain ⟨g, off, rfl, hW⟩ := HR2.out k _ HY.out
          have hW := hW.below hB.out hW.lt
          have bg := hW.lt
          obtain ⟨y, ay⟩ := y
          have d1 : wr.cell? ⟨g, off + k * 8 + 1, none⟩ = some (.int .i64 ay) := hW.c1
          obtain ⟨pg, po, rfl, e1⟩ := (HQ2.out.below hB.out (Nat.le_refl _)) k _ hdy
          dsimp only at e1
          have bp := lt_of_cell e1
          have hee : (ay == ay) = true := by simp
          clear hW hdy HY
          go_wp2
          go_quiet (fail)
          go_wp2
          go_roundw
          case rel => exact ⟨k + 1, by go_num, by omega, hB.out.trans ⟨rfl, rfl, rfl, Nat.le_refl _, fun _ _ => rfl⟩⟩
          case measure => simp [intOf]; omega
        · obtain rfl : k = m := by omega
          have HG3 := Lib.hid (HG2.out.below (Nat.le_refl _) hB.out)
          have HB3 := Lib.hid (HB2.out.trans (hB.out.mono HB2.out.size))
          clear hB HG2 HB2 HR2 HQ2
          go_wp2_with fail
          refine (H2.out _ HG3.out).mono ?_
          rintro e w4 ⟨rfl, hB4⟩
          have HG4 := Lib.hid (HG3.out.below (Nat.le_refl _) hB4)
          have HB4 := Lib.hid (HB3.out.trans (hB4.mono HB3.out.size))
          clear hB4
          go_wp2_with (first
            | (go_at_call 10; refine (num_any _ _).mono ?_; rintro e w' ⟨rfl, rfl⟩)
            | (go_at_call 11; refine (HW.out _ HG4.out).mono ?_; rintro e w5 ⟨rfl, hB5⟩))
          go_ret
          exact ⟨rfl, HB4.out.trans (hB5.mono HB4.out.size)⟩

/-- DeflexGaps' law, at every input. -/
theorem lawGaps (a : Option Addr) (cap : Nat) (l : List (Wd × Int)) (n : Nat) (hn : l.length = n) (b : Option Addr) (gc : Nat) (gs : List Int) (gn : Nat) (hgn : gs.length = gn) (w : World) (hG : GlobD w) (hl : RowW w a l) (hf : ∀ y ∈ l, FitW y) (hg : RowI w b gs) :
    Calls Tryd.prog 5 #[.slice a n cap, .slice b gn gc] w fun e w' => e = .returned (.bool true) ∧ Below w.heap.size w w' := by
  subst hn
  subst hgn
  by_cases h1 : 100 < l.length
  · exact lawGaps_many a cap l b gc _ w hG h1
  · exact lawGaps_few a cap l b gc gs w hG hl hf hg (by omega)
end Go.Proofs.YtdodkbpagbblmaaDoor
end
