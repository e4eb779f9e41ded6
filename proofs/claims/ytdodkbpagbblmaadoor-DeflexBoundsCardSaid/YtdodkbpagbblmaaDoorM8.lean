import Derived.Laws.IdiomArrays
import Derived.OpenShut
import Derived.Deep.Slices
import Derived.ProofKit
import Derived.ChangeSame
import Derived.Test.YtdodkbpagbblmaaDoorM6
import Derived.Test.YtdodkbpagbblmaaDoorM7
section
namespace Go.Proofs.YtdodkbpagbblmaaDoor
open Go.RowKit Go.Deep Go.ChangeShapes Go.WideShapes

theorem cellsOf3 : Tryd.prog.cellsOf 3 = 1 := by kernel_rfl
theorem cellsOf9 : Tryd.prog.cellsOf 9 = 1 := by kernel_rfl
theorem cellsOf33 : Tryd.prog.cellsOf 33 = 1 := by kernel_rfl
theorem cellsOf34 : Tryd.prog.cellsOf 34 = 1 := by kernel_rfl
theorem cellsOf36 : Tryd.prog.cellsOf 36 = 4 := by kernel_rfl
theorem cellsOf38 : Tryd.prog.cellsOf 38 = 8 := by kernel_rfl

theorem u64_rng {n : Int} (h : (Lit.int .u64 n).wf = true) : 0 ≤ n ∧ n < 18446744073709551616 := by
  have h0 : IntKind.u64.min = 0 := by decide
  have h1 : IntKind.u64.max = 18446744073709551615 := by decide
  simp [Lit.wf] at h
  omega
theorem i64_rng {n : Int} (h : (Lit.int .i64 n).wf = true) : -9223372036854775808 ≤ n ∧ n ≤ 9223372036854775807 := by
  have h0 : IntKind.i64.min = -9223372036854775808 := by decide
  have h1 : IntKind.i64.max = 9223372036854775807 := by decide
  simp [Lit.wf] at h
  omega
theorem mapM_at {α β : Type} (f : α → Option β) : ∀ (l : List α) (ys : List β), l.mapM f = some ys → ∀ (j : Nat) (x : α) (y : β), l[j]? = some x → ys[j]? = some y → f x = some y := by
  intro l
  induction l with
  | nil => intro ys h j x y hx; simp at hx
  | cons a l ih =>
    intro ys h j x y hx hy
    rw [List.mapM_cons] at h
    cases ha : f a with
    | none => rw [ha] at h; cases h
    | some b =>
      rw [ha] at h
      cases hl : l.mapM f with
      | none => rw [hl] at h; cases h
      | some bs =>
        rw [hl] at h
        cases h
        cases j with
        | zero => simp at hx hy; rw [← hx, ← hy]; exact ha
        | succ j => exact ih bs hl j x y (by simpa using hx) (by simpa using hy)
theorem add_off (b off j : Nat) : (⟨b, off, none⟩ : Addr).add j = ⟨b, off + j, none⟩ := by
  unfold Addr.add
  split
  · next h => rw [h]; rfl
  · rfl

variable {H : Type} {enc : TypeId × Value → H} {w : World} {base : Nat} {spare : Nat → Bool} {held : Bool}

theorem cells_ix {a : Addr} {n : Nat} {cs : List Value} (h : w.cells? base a n = some cs) (j : Nat) (v : Value) (hj : j < n) (hv : cs[j]? = some v) : w.cell? (a.add j) = some v := by
  unfold World.cells? at h
  split at h
  · exact mapM_at _ _ _ h j j v (by simp [hj]) hv
  · cases h
theorem open_u64 {fuel : Nat} {v : Value} {x : DataW H × List MemPlace} (h : DataW.trod enc Tryd.prog w base spare held fuel 34 [v] = some x) : ∃ n : Int, v = .int .u64 n ∧ 0 ≤ n ∧ n < 18446744073709551616 := by
  obtain ⟨n, e, _, hw⟩ := DataW.trod_int Tryd.underlying34 h
  simp at e
  exact ⟨n, e, u64_rng hw⟩
theorem open_i64 {fuel : Nat} {v : Value} {x : DataW H × List MemPlace} (h : DataW.trod enc Tryd.prog w base spare held fuel 3 [v] = some x) : ∃ n : Int, v = .int .i64 n ∧ -9223372036854775808 ≤ n ∧ n ≤ 9223372036854775807 := by
  obtain ⟨n, e, _, hw⟩ := DataW.trod_int Tryd.underlying3 h
  simp at e
  exact ⟨n, e, i64_rng hw⟩
theorem open_kind {fuel : Nat} {v : Value} {x : DataW H × List MemPlace} (h : DataW.trod enc Tryd.prog w base spare held fuel 33 [v] = some x) : ∃ n : Int, v = .int .i64 n := by
  obtain ⟨n, e, _, hw⟩ := DataW.trod_int Tryd.underlying33 h
  simp at e
  exact ⟨n, e⟩

set_option maxRecDepth 100000 in
/-- A set that reads as data. -/
theorem st_open {fuel : Nat} {cs : List Value} {x : DataW H × List MemPlace} (h : DataW.trod enc Tryd.prog w base spare held fuel 36 cs = some x) :
    ∃ s : BS, cs = [.int .u64 (wdI s 0), .int .u64 (wdI s 1), .int .u64 (wdI s 2), .int .u64 (wdI s 3)] := by
  obtain ⟨_, _, _, _, hl, _⟩ := DataW.trod_array Tryd.underlying36 h
  rw [cellsOf36] at hl
  match cs, hl with
  | [a, b, c, d], _ =>
    obtain ⟨_, _, _, _, n, _, h0, h1, h2, h3⟩ := trod_array4 Tryd.underlying36 cellsOf34 h
    obtain ⟨a, rfl, ra⟩ := open_u64 h0
    obtain ⟨b, rfl, rb⟩ := open_u64 h1
    obtain ⟨c, rfl, rc⟩ := open_u64 h2
    obtain ⟨d, rfl, rd⟩ := open_u64 h3
    obtain ⟨s, rfl, rfl, rfl, rfl⟩ := set_of_words a b c d ra rb rc rd
    exact ⟨s, rfl⟩

theorem trod_struct5 {P : Program} {t : TypeId} {f0 f1 f2 f3 f4 : Field} {fuel : Nat} {cs : List Value} {x : DataW H × List MemPlace} (ht : P.underlying t = some (.struct #[f0, f1, f2, f3, f4])) (h : DataW.trod enc P w base spare held fuel t cs = some x) :
    ∃ y0 y1 y2 y3 y4 n, cs.length = P.cellsOf t ∧ DataW.trod enc P w base spare held n f0.type ((cs.drop f0.offset).take (P.cellsOf f0.type)) = some y0 ∧
      DataW.trod enc P w base spare held n f1.type ((cs.drop f1.offset).take (P.cellsOf f1.type)) = some y1 ∧ DataW.trod enc P w base spare held n f2.type ((cs.drop f2.offset).take (P.cellsOf f2.type)) = some y2 ∧
      DataW.trod enc P w base spare held n f3.type ((cs.drop f3.offset).take (P.cellsOf f3.type)) = some y3 ∧ DataW.trod enc P w base spare held n f4.type ((cs.drop f4.offset).take (P.cellsOf f4.type)) = some y4 := by
  obtain ⟨xs, n, _, rfl, hl, hlen, hf⟩ := DataW.trod_struct ht h
  match xs, hlen with
  | [y0, y1, y2, y3, y4], _ => exact ⟨y0, y1, y2, y3, y4, n, hl, by simpa using hf 0 f0 rfl, by simpa using hf 1 f1 rfl, by simpa using hf 2 f2 rfl, by simpa using hf 3 f3 rfl, by simpa using hf 4 f4 rfl⟩

/-- What an argument's word is bound by. -/
def FitW (x : Wd × Int) : Prop := x.1.txt.size ≤ maxLen ∧ -9223372036854775808 ≤ x.1.num ∧ x.1.num ≤ 9223372036854775807 ∧ -9223372036854775808 ≤ x.2 ∧ x.2 ≤ 9223372036854775807

set_option maxRecDepth 100000 in
/-- A word that reads as data. -/
theorem wd_open {fuel : Nat} {cs : List Value} {x : DataW H × List MemPlace} (h : DataW.trod enc Tryd.prog w base spare held fuel 38 cs = some x) :
    ∃ y : Wd × Int, cs = (wordC y.1 y.2).toList ∧ FitW y := by
  obtain ⟨_, _, _, _, _, n, hl, h0, h1, h2, h3, h4⟩ := trod_struct5 Tryd.underlying38 h
  rw [cellsOf38] at hl
  match cs, hl with
  | [a, b, c, d0, d1, d2, d3, e], _ =>
    simp only [cellsOf3, cellsOf9, cellsOf33, cellsOf36, List.drop_zero, List.take_succ_cons, List.take_zero, List.drop_succ_cons] at h0 h1 h2 h3 h4
    obtain ⟨kd, rfl⟩ := open_kind h0
    obtain ⟨pl, rfl, p0, p1⟩ := open_i64 h1
    obtain ⟨s, e2, _, hs⟩ := DataW.trod_string Tryd.underlying9 h2
    simp at e2
    subst e2
    obtain ⟨st, hst⟩ := st_open h3
    simp at hst
    obtain ⟨rfl, rfl, rfl, rfl⟩ := hst
    obtain ⟨nm, rfl, q0, q1⟩ := open_i64 h4
    exact ⟨(⟨kd, s, st, nm⟩, pl), rfl, hs, q0, q1, p0, p1⟩

/-- A slice of words that reads as data. -/
theorem wds_open {fuel : Nat} {a : Option Addr} {len cap : Nat} {x : DataW H × List MemPlace} (h : DataW.trod enc Tryd.prog w base spare held fuel 23 [.slice a len cap] = some x) :
    ∃ d : List (Wd × Int), d.length = len ∧ RowW w a d ∧ (∀ y ∈ d, FitW y) ∧ len ≤ cap ∧ (a = none → cap = 0) := by
  rcases open_slice Tryd.underlying23 h with ⟨h0, _⟩ | ⟨a', len', cap', m, n, D, Pl, hcs, _, hl, hm, hmm, _, hel⟩
  · simp at h0
    obtain ⟨rfl, rfl, rfl⟩ := h0
    exact ⟨[], rfl, fun i x hx => by simp at hx, fun x hx => by simp at hx, Nat.le_refl _, fun _ => rfl⟩
  · simp at hcs
    obtain ⟨rfl, rfl, rfl⟩ := hcs
    have hlm : len ≤ m := by rw [hmm]; split <;> omega
    have hall : ∀ i, i < len → ∃ y : Wd × Int, (∀ j v, j < 8 → (wordC y.1 y.2).toList[j]? = some v → w.cell? ((a'.add (i * 8)).add j) = some v) ∧ FitW y := by
      intro i hi
      obtain ⟨cs', h1, h2⟩ := hel i (by omega)
      obtain ⟨y, rfl, hy⟩ := wd_open h2
      rw [cellsOf38] at h1
      exact ⟨y, fun j v hj hv => cells_ix h1 j v hj hv, hy⟩
    haveI : Inhabited (Wd × Int) := ⟨(⟨0, ⟨#[]⟩, 0#256, 0⟩, 0)⟩
    obtain ⟨f, hf⟩ := choose_lt hall
    have hget : ∀ i x, ((List.range len).map f)[i]? = some x → i < len ∧ f i = x := by
      intro i x hx
      have hi : i < len := by
        have := (List.getElem?_eq_some_iff.1 hx).1
        simpa using this
      rw [List.getElem?_map, List.getElem?_range hi] at hx
      exact ⟨hi, by simpa using hx⟩
    refine ⟨(List.range len).map f, by simp, ?_, ?_, hl, fun e => by cases e⟩
    · intro i x hx
      obtain ⟨hi, hx'⟩ := hget i x hx
      have q := (hf i hi).1
      rw [hx'] at q
      have hspot : a'.spot = none := by
        have h0 := (hf 0 (by omega)).1 0 _ (by omega) rfl
        have e0 : (a'.add (0 * 8)).add 0 = a' := rfl
        rw [e0] at h0
        exact World.cell?_spot h0
      obtain ⟨b, off, spot⟩ := a'
      simp only at hspot
      subst hspot
      have k : ∀ j v, j < 8 → (wordC x.1 x.2).toList[j]? = some v → w.cell? ⟨b, off + i * 8 + j, none⟩ = some v := fun j v hj hv => by
        have h := q j v hj hv
        rw [add_off, add_off] at h
        exact h
      exact ⟨b, off, rfl, k 0 _ (by omega) rfl, k 1 _ (by omega) rfl, k 2 _ (by omega) rfl, k 3 _ (by omega) rfl, k 4 _ (by omega) rfl, k 5 _ (by omega) rfl, k 6 _ (by omega) rfl, k 7 _ (by omega) rfl⟩
    · intro x hx
      obtain ⟨i, hi⟩ := List.mem_iff_getElem?.1 hx
      obtain ⟨hi', rfl⟩ := hget i x hi
      exact (hf i hi').2
end Go.Proofs.YtdodkbpagbblmaaDoor
end
section
namespace Go.Proofs.YtdodkbpagbblmaaDoor
open Go Go.RowKit

/-! ### words are read as they were told -/
def u8s (l : List Nat) : List UInt8 := l.map UInt8.ofNat
theorem u8s_toNat (l : List UInt8) : u8s (l.map UInt8.toNat) = l := by
  unfold u8s
  rw [List.map_map]
  conv => rhs; rw [← List.map_id l]
  refine List.map_congr_left fun x _ => ?_
  simp
/-- What may stand behind a word. -/
def Stop (r : List UInt8) : Prop := ∀ c t, r = c :: t → namB c.toNat = false
theorem runL_stop (l r : List UInt8) (h : runL l = l.length) (hr : Stop r) : runL (l ++ r) = l.length := by
  induction l with
  | nil =>
    cases r with
    | nil => rfl
    | cons c t => rw [List.nil_append, runL_cons, hr c t rfl]; rfl
  | cons c l ih =>
    rw [runL_cons] at h
    cases hc : namB c.toNat with
    | false => rw [hc] at h; simp at h
    | true =>
      rw [hc, if_pos rfl, List.length_cons] at h
      rw [List.cons_append, runL_cons, hc, if_pos rfl, ih (by omega), List.length_cons]
theorem bytesOf_data (t : ByteArray) : bytesOf t.data.toList = t := by
  unfold bytesOf
  rfl
theorem bytesStr_data (t : ByteArray) : bytesStr (t.data.toList.map UInt8.toNat) = t := by
  apply WideShapes.bytes_inj
  rw [bytesStr_list]
  exact u8s_toNat _

/-- A name. -/
theorem next_name (t : ByteArray) (r : List UInt8) (h : nameB t.data.toList = true) (hr : Stop r) : nextW (t.data.toList ++ r) = some (⟨1, t, 0#256, 0⟩, t.data.toList.length) := by
  have hb := bytesOf_data t
  generalize t.data.toList = l at h hb ⊢
  cases l with
  | nil => cases h
  | cons c l =>
    have h1 : (decide ((c :: l).length ≤ 64) && !digB c.toNat && decide (runL (c :: l) = (c :: l).length)) = true := h
    simp only [Bool.and_eq_true, decide_eq_true_eq, Bool.not_eq_true'] at h1
    obtain ⟨⟨h2, h3⟩, h4⟩ := h1
    have hn : namB c.toNat = true := by
      rw [runL_cons] at h4
      cases hc : namB c.toNat with
      | true => rfl
      | false => rw [hc] at h4; simp at h4
    have hl : (letB c.toNat || decide (c.toNat = 95)) = true := by
      unfold namB at hn
      rw [h3] at hn
      simpa using hn
    have hrun := runL_stop (c :: l) r h4 hr
    rw [nextW_of (c :: l ++ r) c (l ++ r) rfl c.toNat rfl, if_pos hl, hrun, List.take_left, if_pos h, hb]
/-- A sign. -/
theorem next_sign (t : ByteArray) (c : UInt8) (r : List UInt8) (ht : t.data.toList = [c]) (h : sgnB c.toNat = true) : nextW (t.data.toList ++ r) = some (⟨5, t, 0#256, 0⟩, t.data.toList.length) := by
  have hb := bytesOf_data t
  rw [ht] at hb ⊢
  have hc : c.toNat = 59 ∨ c.toNat = 46 ∨ c.toNat = 61 ∨ c.toNat = 44 ∨ c.toNat = 40 ∨ c.toNat = 41 ∨ c.toNat = 123 ∨ c.toNat = 125 ∨ c.toNat = 62 ∨ c.toNat = 63 ∨ c.toNat = 42 ∨ c.toNat = 43 := of_decide_eq_true h
  have h1 : (letB c.toNat || decide (c.toNat = 95)) = false := by rcases hc with e | e | e | e | e | e | e | e | e | e | e | e <;> rw [e] <;> rfl
  have h2 : digB c.toNat = false := by rcases hc with e | e | e | e | e | e | e | e | e | e | e | e <;> rw [e] <;> rfl
  rw [nextW_of ([c] ++ r) c r rfl c.toNat rfl, if_neg (by rw [h1]; simp), if_neg (by rw [h2]; simp), if_neg (by omega), if_neg (by omega), if_pos h]
  show some ((⟨5, bytesOf [c], 0#256, 0⟩ : Wd), 1) = _
  rw [hb]
  rfl
theorem ofNat_toNat (c : UInt8) : UInt8.ofNat c.toNat = c := by simp
theorem byteD_quote (c : UInt8) (r : List UInt8) : byteD (u8s (quoteB c.toNat) ++ r) = (c.toNat, (quoteB c.toNat).length) := by
  have hex : ∀ n : Fin 256, hexs 0 [UInt8.ofNat (hexC (n.val / 16)), UInt8.ofNat (hexC (n.val % 16))] = some n.val := by decide +kernel
  have hlt := c.toNat_lt
  unfold quoteB
  by_cases c1 : c.toNat = 10
  · rw [if_pos c1, c1]; rfl
  · rw [if_neg c1]
    by_cases c2 : c.toNat = 9
    · rw [if_pos c2, c2]; rfl
    · rw [if_neg c2]
      by_cases c3 : c.toNat = 13
      · rw [if_pos c3, c3]; rfl
      · rw [if_neg c3]
        by_cases c4 : c.toNat = 34 ∨ c.toNat = 92
        · rw [if_pos c4]
          rcases c4 with c4 | c4
          · rw [c4]; rfl
          · rw [c4]; rfl
        · rw [if_neg c4]
          by_cases c5 : 32 ≤ c.toNat ∧ c.toNat ≤ 126
          · rw [if_pos c5]
            show byteD (UInt8.ofNat c.toNat :: r) = _
            rw [ofNat_toNat, byteD_cons, if_neg (by omega), if_pos c5]
            rfl
          · rw [if_neg c5]
            have h := hex ⟨c.toNat, hlt⟩
            show byteD (92 :: 120 :: UInt8.ofNat (hexC (c.toNat / 16)) :: UInt8.ofNat (hexC (c.toNat % 16)) :: r) = _
            rw [byteD_cons, if_pos (by rfl), escD_cons, if_neg (by decide), if_neg (by decide), if_neg (by decide), if_neg (by decide), if_pos ⟨by rfl, by simp⟩]
            simp only at h
            rw [show List.take 2 (UInt8.ofNat (hexC (c.toNat / 16)) :: UInt8.ofNat (hexC (c.toNat % 16)) :: r) = [UInt8.ofNat (hexC (c.toNat / 16)), UInt8.ofNat (hexC (c.toNat % 16))] from rfl, h]
            simp only
            rw [Nat.mod_eq_of_lt hlt]
            rfl
theorem quoteB_head (c : UInt8) (r : List UInt8) : Lib.hasPrefix (u8s (quoteB c.toNat) ++ r) [34] = false := by
  have h : ∀ n : Fin 256, ((quoteB n.val).head?.map UInt8.ofNat ≠ some 34) ∧ quoteB n.val ≠ [] := by decide +kernel
  obtain ⟨h1, h2⟩ := h ⟨c.toNat, c.toNat_lt⟩
  simp only at h1 h2
  cases hq : quoteB c.toNat with
  | nil => exact absurd hq h2
  | cons a l =>
    rw [hq] at h1
    simp at h1
    simp [u8s, Lib.hasPrefix, List.isPrefixOf]
    exact fun e => h1 e.symm
theorem textF_quote (r : List UInt8) : ∀ (l : List UInt8) (f : Nat), l.length + 1 ≤ f → textF f (u8s (quoteL l) ++ 34 :: r) = some (l.map UInt8.toNat, (quoteL l).length + 1) := by
  intro l
  induction l with
  | nil =>
    intro f hf
    obtain ⟨g, rfl⟩ : ∃ g, f = g + 1 := ⟨f - 1, by simp at hf; omega⟩
    rfl
  | cons c l ih =>
    intro f hf
    obtain ⟨g, rfl⟩ : ∃ g, f = g + 1 := ⟨f - 1, by simp at hf; omega⟩
    have e : u8s (quoteL (c :: l)) ++ 34 :: r = u8s (quoteB c.toNat) ++ (u8s (quoteL l) ++ 34 :: r) := by simp [quoteL, u8s]
    have hp := quoteB_pos c.toNat
    have hlen : (u8s (quoteB c.toNat)).length = (quoteB c.toNat).length := by simp [u8s]
    rw [e]
    unfold textF
    rw [if_neg (by rw [quoteB_head]; simp), byteD_quote, if_neg (by simp only; omega)]
    simp only
    rw [← hlen, List.drop_left, ih g (by simp at hf; omega), hlen]
    simp [quoteL]
    omega
/-- A text. -/
theorem next_text (t : ByteArray) (r : List UInt8) : nextW (u8s (quoteF t.data.toList) ++ r) = some (⟨2, t, 0#256, 0⟩, (quoteF t.data.toList).length) := by
  have e : u8s (quoteF t.data.toList) ++ r = 34 :: (u8s (quoteL t.data.toList) ++ 34 :: r) := by simp [quoteF, u8s]
  have hO : textO (u8s (quoteL t.data.toList) ++ 34 :: r) = some (t.data.toList.map UInt8.toNat, (quoteL t.data.toList).length + 1) := by
    unfold textO
    refine textF_quote r _ _ ?_
    have : ∀ l : List UInt8, l.length ≤ (quoteL l).length := by
      intro l
      induction l with
      | nil => simp
      | cons c l ih =>
        have := quoteB_pos c.toNat
        simp [quoteL] at ih ⊢
        omega
    have := this t.data.toList
    simp [u8s]
    simp at this
    omega
  rw [e]
  show ((textO (u8s (quoteL t.data.toList) ++ 34 :: r)).map fun p => ((⟨2, bytesStr p.1, 0#256, 0⟩ : Wd), 1 + p.2)) = _
  rw [hO]
  simp only [Option.map_some]
  rw [bytesStr_data]
  simp [quoteF]
  omega
end Go.Proofs.YtdodkbpagbblmaaDoor
end
section
namespace Go.Proofs.YtdodkbpagbblmaaDoor
open Go Go.RowKit

/-! ### numbers are read as they were told -/
theorem dig_named {b : Nat} (h : digB b = true) : namB b = true := by unfold namB; rw [h]; simp
theorem digit_byte (d : Nat) (h : d < 10) : digB (UInt8.ofNat (48 + d)).toNat = true ∧ Lib.digitVal (UInt8.ofNat (48 + d)) = some d := by
  have k : ∀ d : Fin 10, digB (UInt8.ofNat (48 + d.val)).toNat = true ∧ Lib.digitVal (UInt8.ofNat (48 + d.val)) = some d.val := by decide +kernel
  exact k ⟨d, h⟩
theorem decDigits_more {u : Nat} (h : ¬ u < 10) : Lib.decDigits u = Lib.decDigits (u / 10) ++ [UInt8.ofNat (48 + u % 10)] := by
  rw [Lib.decDigits, dif_neg h]
theorem decDigits_dig (u : Nat) : ∀ c ∈ Lib.decDigits u, digB c.toNat = true := by
  induction u using Nat.strongRecOn with
  | _ u ih =>
    intro c hc
    by_cases h : u < 10
    · rw [Lib.decDigits_one h, List.mem_singleton] at hc
      rw [hc]
      exact (digit_byte u h).1
    · rw [decDigits_more h, List.mem_append, List.mem_singleton] at hc
      rcases hc with hc | hc
      · exact ih (u / 10) (by omega) c hc
      · rw [hc]; exact (digit_byte _ (by omega)).1
theorem decDigits_ne (u : Nat) : Lib.decDigits u ≠ [] := by
  by_cases h : u < 10
  · rw [Lib.decDigits_one h]; simp
  · rw [decDigits_more h]; simp
theorem decDigits_le : ∀ (k u : Nat), u < 10 ^ (k + 1) → (Lib.decDigits u).length ≤ k + 1 := by
  intro k
  induction k with
  | zero => intro u h; rw [Lib.decDigits_one (by omega)]; simp
  | succ k ih =>
    intro u h
    by_cases h1 : u < 10
    · rw [Lib.decDigits_one h1]; simp
    · have h2 : u / 10 < 10 ^ (k + 1) := by
        rw [Nat.pow_succ] at h
        exact Nat.div_lt_of_lt_mul (by omega)
      have := ih (u / 10) h2
      rw [decDigits_more h1, List.length_append, List.length_singleton]
      omega
theorem decFrom_append (l m : List UInt8) : ∀ (a n : Nat), Lib.decFrom a l = some n → Lib.decFrom a (l ++ m) = Lib.decFrom n m := by
  induction l with
  | nil => intro a n h; cases h; rfl
  | cons b l ih =>
    intro a n h
    rw [List.cons_append]
    have e : ∀ t, Lib.decFrom a (b :: t) = match Lib.digitVal b with
      | some d => Lib.decFrom (a * 10 + d) t
      | none => none := fun _ => rfl
    rw [e] at h ⊢
    cases hd : Lib.digitVal b with
    | none => rw [hd] at h; cases h
    | some d => rw [hd] at h; exact ih _ _ h
theorem decFrom_digits (u : Nat) : Lib.decFrom 0 (Lib.decDigits u) = some u := by
  induction u using Nat.strongRecOn with
  | _ u ih =>
    by_cases h : u < 10
    · rw [Lib.decDigits_one h]
      unfold Lib.decFrom
      rw [(digit_byte u h).2]
      simp [Lib.decFrom]
    · rw [decDigits_more h, decFrom_append _ _ _ _ (ih (u / 10) (by omega))]
      unfold Lib.decFrom
      rw [(digit_byte (u % 10) (by omega)).2]
      simp only [Lib.decFrom]
      congr 1
      omega
theorem runL_dig (l : List UInt8) (h : ∀ c ∈ l, digB c.toNat = true) : runL l = l.length := by
  induction l with
  | nil => rfl
  | cons c l ih => rw [runL_cons, if_pos (dig_named (h c (by simp))), ih (fun d hd => h d (by simp [hd])), List.length_cons]
theorem atoi_digits (u : Nat) : Lib.atoi (Lib.decDigits u) = some (u : Int) := by
  have h1 := decFrom_digits u
  have h2 := decDigits_dig u
  have h3 := decDigits_ne u
  generalize Lib.decDigits u = l at h1 h2 h3
  cases l with
  | nil => exact absurd rfl h3
  | cons b r =>
    have hb := h2 b (by simp)
    have hb2 : 48 ≤ b.toNat ∧ b.toNat ≤ 57 := by simpa [digB] using hb
    have n1 : (b == 45) = false := by rw [beq_eq_false_iff_ne]; intro e; rw [e] at hb2; exact absurd hb2 (by decide)
    have n2 : (b == 43) = false := by rw [beq_eq_false_iff_ne]; intro e; rw [e] at hb2; exact absurd hb2 (by decide)
    have e : Lib.atoi (b :: r) = if b == 45 then (Lib.decNat r).map (fun (m : Nat) => -(m : Int)) else if b == 43 then (Lib.decNat r).map (fun (m : Nat) => (m : Int)) else (Lib.decNat (b :: r)).map (fun (m : Nat) => (m : Int)) := rfl
    have e2 : Lib.decNat (b :: r) = Lib.decFrom 0 (b :: r) := rfl
    rw [e, n1, n2, e2, h1]
    rfl
/-- A number. -/
theorem next_number (n : Int) (h0 : 0 ≤ n) (h1 : n ≤ 999999999) (r : List UInt8) (hr : Stop r) : nextW (Lib.itoa n ++ r) = some (⟨4, ⟨#[]⟩, 0#256, n⟩, (Lib.itoa n).length) := by
  obtain ⟨u, rfl⟩ : ∃ u : Nat, n = (u : Int) := ⟨n.toNat, by omega⟩
  rw [Lib.itoa_nonneg]
  have hat := atoi_digits u
  have hit : Lib.itoa (u : Int) = Lib.decDigits u := Lib.itoa_nonneg u
  have hd := decDigits_dig u
  have hne := decDigits_ne u
  have ten : 10 ^ (8 + 1) = 1000000000 := by decide
  have hle := decDigits_le 8 u (by rw [ten]; omega)
  generalize Lib.decDigits u = l at hat hit hd hne hle ⊢
  have hrun := runL_stop l r (runL_dig l hd) hr
  cases l with
  | nil => exact absurd rfl hne
  | cons c l =>
    have hc := hd c (by simp)
    have hc2 : 48 ≤ c.toNat ∧ c.toNat ≤ 57 := by simpa [digB] using hc
    have hl : (letB c.toNat || decide (c.toNat = 95)) = false := by simp [letB]; omega
    rw [nextW_of (c :: l ++ r) c (l ++ r) rfl c.toNat rfl, if_neg (by rw [hl]; simp), if_pos hc]
    have hn : numO (c :: l ++ r) = some (u : Int) := by
      unfold numO
      rw [hrun, if_pos (by simpa using hle), List.take_left, hat]
      simp only
      rw [if_pos hit]
    rw [hn, hrun]
    rfl
end Go.Proofs.YtdodkbpagbblmaaDoor
end
section
namespace Go.Proofs.YtdodkbpagbblmaaDoor
open Go Go.RowKit

/-! ### how far a told set goes -/
def addL (n k : Nat) : Nat := if n = 0 then 0 else n + k
theorem addL_add (n j k : Nat) : addL (addL n j) k = addL n (j + k) := by
  unfold addL
  split
  · simp
  · rw [if_neg (by omega)]; omega
theorem setL_esc (c : UInt8) (r : List UInt8) : setL (92 :: c :: r) = addL (setL r) 2 := by
  rw [setL_cons, if_pos (by rfl)]
  rfl
theorem setL_one (c : UInt8) (r : List UInt8) (h1 : c.toNat ≠ 92) (h2 : c.toNat ≠ 93) : setL (c :: r) = addL (setL r) 1 := by
  rw [setL_cons, if_neg h1, if_neg h2]
  rfl
theorem setL_byte (b : Nat) (hb : b < 256) (r : List UInt8) : setL (u8s (byteT b) ++ r) = addL (setL r) (byteT b).length := by
  have hx : ∀ n : Fin 16, (UInt8.ofNat (hexC n.val)).toNat ≠ 92 ∧ (UInt8.ofNat (hexC n.val)).toNat ≠ 93 := by decide +kernel
  have hs : ∀ n : Fin 256, signB n.val = false → n.val ≠ 92 ∧ n.val ≠ 93 := by decide +kernel
  unfold byteT
  split
  · exact setL_esc _ r
  · split
    · exact setL_esc _ r
    · split
      · exact setL_esc _ r
      · split
        · exact setL_esc _ r
        · rename_i hsg
          have hsg' : signB b = false := by simpa using hsg
          obtain ⟨s1, s2⟩ := hs ⟨b, hb⟩ hsg'
          simp only at s1 s2
          split
          · refine setL_one _ r ?_ ?_
            · simp; omega
            · simp; omega
          · obtain ⟨a1, a2⟩ := hx ⟨b / 16, by omega⟩
            obtain ⟨b1, b2⟩ := hx ⟨b % 16, by omega⟩
            show setL (92 :: 120 :: UInt8.ofNat (hexC (b / 16)) :: UInt8.ofNat (hexC (b % 16)) :: r) = _
            rw [setL_esc, setL_one _ _ a1 a2, setL_one _ _ b1 b2, addL_add, addL_add]
            rfl
theorem u8s_append (l m : List Nat) : u8s (l ++ m) = u8s l ++ u8s m := by simp [u8s]
theorem setL_range (x : Nat × Nat) (h1 : x.1 < 256) (h2 : x.2 < 256) (r : List UInt8) : setL (u8s (rangeT x) ++ r) = addL (setL r) (rangeT x).length := by
  unfold rangeT
  split
  · exact setL_byte _ h1 r
  · split
    · rw [u8s_append, u8s_append, List.append_assoc, List.append_assoc, setL_byte _ h1]
      show addL (setL (45 :: (u8s (byteT x.2) ++ r))) _ = _
      rw [setL_one 45 _ (by decide) (by decide), setL_byte _ h2, addL_add, addL_add]
      simp only [List.length_append, List.length_singleton]
      congr 1
      omega
    · rw [u8s_append, List.append_assoc, setL_byte _ h1, setL_byte _ h2, addL_add]
      simp only [List.length_append]
      congr 1
      omega
theorem setL_ranges (rs : List (Nat × Nat)) (h : SmallR rs) (r : List UInt8) : setL (u8s (rangesT rs) ++ r) = addL (setL r) (rangesT rs).length := by
  induction rs with
  | nil =>
    show setL r = addL (setL r) 0
    unfold addL
    split
    · assumption
    · rfl
  | cons x rs ih =>
    have e : rangesT (x :: rs) = rangeT x ++ rangesT rs := by simp [rangesT]
    have hx := h x (by simp)
    rw [e, u8s_append, List.append_assoc, setL_range x hx.1 hx.2, ih (fun y hy => h y (by simp [hy])), addL_add, List.length_append]
    congr 1
    omega
/-- A told set goes to its own end. -/
theorem setL_text (s : BS) (r : List UInt8) : setL (u8s (textS s) ++ r) = (textS s).length := by
  have hsm : ∀ s : BS, SmallR (rngs (bytesL s)) := fun s => rngs_small _ fun y hy => ((mem_bytesL s y).1 hy).1
  have he : setL (93 :: r) = 1 := by rw [setL_cons, if_neg (by decide), if_pos (by rfl)]
  unfold textS
  split
  · rw [u8s_append, u8s_append, List.append_assoc, List.append_assoc]
    show setL (91 :: 94 :: (u8s (rangesT (rngs (bytesL (~~~s)))) ++ (93 :: r))) = _
    rw [setL_one 91 _ (by decide) (by decide), setL_one 94 _ (by decide) (by decide), setL_ranges _ (hsm _), he, addL_add, addL_add]
    simp [addL]
    omega
  · rw [u8s_append, u8s_append, List.append_assoc, List.append_assoc]
    show setL (91 :: (u8s (rangesT (rngs (bytesL s))) ++ (93 :: r))) = _
    rw [setL_one 91 _ (by decide) (by decide), setL_ranges _ (hsm _), he, addL_add]
    simp [addL]
    omega
end Go.Proofs.YtdodkbpagbblmaaDoor
end
section
namespace Go.Proofs.YtdodkbpagbblmaaDoor
open Go Go.RowKit

/-! ### a set is read as it was told (after stage 2's texts) -/
/-- A rising list's k-th is k at least. -/
theorem rising_ge : ∀ (l : List Nat), l.Pairwise (· < ·) → ∀ (k x : Nat), l[k]? = some x → k ≤ x := by
  intro l hl k
  induction k with
  | zero => intro x _; omega
  | succ k ih =>
    intro x hx
    have hk : k + 1 < l.length := (List.getElem?_eq_some_iff.1 hx).1
    have h1 := ih l[k] (List.getElem?_eq_getElem (by omega))
    have h2 := (List.pairwise_iff_getElem.1 hl) k (k + 1) (by omega) hk (by omega)
    have h3 : l[k + 1] = x := by
      rw [List.getElem?_eq_getElem hk] at hx; exact Option.some.inj hx
    omega
theorem bytesL_rising (s : BS) : (bytesL s).Pairwise (· < ·) := by
  unfold bytesL
  exact List.Pairwise.filter _ List.pairwise_lt_range'
theorem bytesL_ge (s : BS) (k x : Nat) (h : (bytesL s)[k]? = some x) : k ≤ x := rising_ge _ (bytesL_rising s) k x h
theorem rngs_take_nil (l : List Nat) (k : Nat) (rs : List (Nat × Nat)) (r : Nat × Nat) (h : rngs (l.take k) = rs ++ [r]) : 0 < k := by
  cases k with
  | zero => simp [rngs] at h
  | succ k => omega
/-- The document's step, written otherwise. -/
theorem rstep_other (rs : List (Nat × Nat)) (r : Nat × Nat) (x : Nat) (hr : r.2 < 256) (hx : x < 256) (hx0 : 0 < x) :
    rstep (rs ++ [r]) x = if r.2 + 1 = x then rs ++ [(r.1, x)] else rs ++ [r] ++ [(x, x)] := by
  simp only [rstep, List.getLast?_append, List.getLast?_singleton, Option.some_or]
  have : ((x + 256 - r.2) % 256 = 1) ↔ (r.2 + 1 = x) := by omega
  simp [this]
/-- A set's ranges go up. -/
theorem rngs_le (s : BS) : ∀ k, k ≤ (bytesL s).length → ∀ r ∈ rngs ((bytesL s).take k), r.1 ≤ r.2 := by
  intro k
  induction k with
  | zero => intro _ r hr; simp [rngs] at hr
  | succ k ih =>
    intro hk r hr
    have hx : (bytesL s)[k]? = some (bytesL s)[k] := List.getElem?_eq_getElem (by omega)
    have hge := bytesL_ge s k _ hx
    have hlt := ((mem_bytesL s _).1 (List.mem_of_getElem? hx)).1
    obtain ⟨x, hx2⟩ : ∃ x, (bytesL s)[k] = x := ⟨_, rfl⟩
    rw [hx2] at hx hge hlt
    rw [List.take_add_one, hx] at hr
    have e : rngs (List.take k (bytesL s) ++ (some x).toList) = rstep (rngs ((bytesL s).take k)) x := rngs_snoc _ _
    rw [e] at hr
    have hsm : SmallR (rngs ((bytesL s).take k)) := rngs_small _ (fun y hy => ((mem_bytesL s y).1 (List.mem_of_mem_take hy)).1)
    rcases List.eq_nil_or_concat (rngs ((bytesL s).take k)) with h0 | ⟨rs', q, hcat⟩
    · rw [h0] at hr
      simp [rstep] at hr
      subst hr
      exact Nat.le_refl _
    · rw [List.concat_eq_append] at hcat
      have hk0 := rngs_take_nil _ k rs' q hcat
      have hq := ih (by omega) q (by rw [hcat]; simp)
      have hq2 := (hsm q (by rw [hcat]; simp)).2
      rw [hcat, rstep_other rs' q x hq2 hlt (by omega)] at hr
      split at hr
      · simp at hr
        rcases hr with hr | rfl
        · exact ih (by omega) r (by rw [hcat]; simp [hr])
        · simp; omega
      · simp at hr
        rcases hr with hr | rfl | rfl
        · exact ih (by omega) r (by rw [hcat]; simp [hr])
        · exact hq
        · exact Nat.le_refl _
theorem rngs_up (s : BS) : ∀ r ∈ rngs (bytesL s), r.1 ≤ r.2 := by
  have h := rngs_le s (bytesL s).length (Nat.le_refl _)
  rw [List.take_length] at h
  exact h
theorem pre1_cons (c x : UInt8) (t : List UInt8) : Lib.hasPrefix (c :: t) [x] = (c == x) := by
  show ((x == c) && true) = (c == x)
  rw [Bool.and_true, Bool.eq_iff_iff, beq_iff_eq, beq_iff_eq]
  exact eq_comm
theorem item_one (l : List UInt8) (_ : (byteB l).2 ≠ 0) (hp : Lib.hasPrefix (l.drop (byteB l).2) [45] = false) : itemB l = (((byteB l).1, (byteB l).1), (byteB l).2) := by
  unfold itemB; rw [if_pos (.inr hp)]
theorem item_two (l : List UInt8) (h : (byteB l).2 ≠ 0) (hp : Lib.hasPrefix (l.drop (byteB l).2) [45] = true) (h1 : (byteB (l.drop ((byteB l).2 + 1))).2 ≠ 0) (h2 : ¬ (byteB (l.drop ((byteB l).2 + 1))).1 < (byteB l).1) :
    itemB l = (((byteB l).1, (byteB (l.drop ((byteB l).2 + 1))).1), (byteB l).2 + 1 + (byteB (l.drop ((byteB l).2 + 1))).2) := by
  unfold itemB; rw [if_neg (by simp [h, hp]), if_neg (by simp [h1, h2])]
theorem items_fuel : ∀ (n : Nat) (l : List UInt8), l.length ≤ n → ∀ f u, l.length + 1 ≤ f → readItems f u l = readItems (l.length + 1) u l := by
  intro n
  induction n with
  | zero =>
    intro l hl f u hf
    have : l = [] := List.length_eq_zero_iff.1 (by omega)
    subst this
    obtain ⟨g, rfl⟩ : ∃ g, f = g + 1 := ⟨f - 1, by simp at hf; omega⟩
    rfl
  | succ n ih =>
    intro l hl f u hf
    obtain ⟨g, rfl⟩ : ∃ g, f = g + 1 := ⟨f - 1, by omega⟩
    unfold readItems
    split
    · rfl
    · split
      · rfl
      · rename_i h1 h2
        have hk := (itemB_lt l).2.2
        have hd : (l.drop (itemB l).2).length + 1 ≤ l.length := by rw [List.length_drop]; omega
        rw [ih (l.drop (itemB l).2) (by omega) g _ (by omega), ih (l.drop (itemB l).2) (by omega) l.length _ hd]
theorem items_end (u : BS) : readItems (([93] : List UInt8).length + 1) u [93] = some u := by
  unfold readItems; simp
theorem items_step (l : List UInt8) (u : BS) (h93 : l ≠ [93]) (hk : (itemB l).2 ≠ 0) : readItems (l.length + 1) u l = readItems ((l.drop (itemB l).2).length + 1) (addR u (itemB l).1) (l.drop (itemB l).2) := by
  have h1 := (itemB_lt l).2.2
  have hd : (l.drop (itemB l).2).length + 1 ≤ l.length := by rw [List.length_drop]; omega
  conv => lhs; unfold readItems
  rw [if_neg h93, if_neg hk]
  exact items_fuel _ _ (Nat.le_refl _) _ _ hd
/-- What the rest of a text says, behind its head. -/
def restS (neg : Bool) (o : Option BS) : Option BS := if neg then o.map (fun s => ~~~s) else o
theorem readS_rest (l : List UInt8) (d : UInt8) (t : List UInt8) (e : l = 91 :: d :: t) :
    readS l = restS (d == 94) (readItems ((l.drop (if d = 94 then 2 else 1)).length + 1) 0#256 (l.drop (if d = 94 then 2 else 1))) := by
  subst e
  unfold readS
  rw [pre1_cons]
  have ht : Lib.trimPrefix (91 :: d :: t) [91] = d :: t := by unfold Lib.trimPrefix; rw [pre1_cons]; simp
  rw [ht, pre1_cons]
  by_cases hd : d = 94
  · subst hd
    have ht2 : Lib.trimPrefix (94 :: t) [94] = t := by unfold Lib.trimPrefix; rw [pre1_cons]; simp
    rw [ht2]
    simp [restS]
  · simp [restS, hd]
/-- Is a number in one of the ranges? -/
def cov (rs : List (Nat × Nat)) (j : Nat) : Bool := rs.any fun r => decide (r.1 ≤ j ∧ j ≤ r.2)
def OkR (rs : List (Nat × Nat)) : Prop := ∀ r ∈ rs, r.1 ≤ r.2 ∧ r.2 < 256
theorem makeR_cov (rs : List (Nat × Nat)) : ∀ s : BS, OkR rs → ∃ u, makeR s rs = some u ∧ ∀ j, u.getLsbD j = (s.getLsbD j || cov rs j) := by
  induction rs with
  | nil => exact fun s _ => ⟨s, rfl, by simp [cov]⟩
  | cons r rs ih =>
    intro s h
    obtain ⟨u, h1, h2⟩ := ih (addR s r) (fun x hx => h x (by simp [hx]))
    have hr := h r (by simp)
    refine ⟨u, by rw [makeR, if_neg (by omega)]; exact h1, fun j => ?_⟩
    rw [h2, addR_bit _ _ _ hr.2, Bool.or_assoc]
    rfl
theorem cov_snoc (rs : List (Nat × Nat)) (r : Nat × Nat) (j : Nat) : cov (rs ++ [r]) j = (cov rs j || decide (r.1 ≤ j ∧ j ≤ r.2)) := by simp [cov]
theorem rngs_cov (s : BS) : ∀ k, k ≤ (bytesL s).length → ∀ j, cov (rngs ((bytesL s).take k)) j = decide (j ∈ (bytesL s).take k) := by
  intro k
  induction k with
  | zero => intro _ j; simp [rngs, cov]
  | succ k ih =>
    intro hk j
    have hx : (bytesL s)[k]? = some (bytesL s)[k] := List.getElem?_eq_getElem (by omega)
    have hge := bytesL_ge s k _ hx
    have hlt := ((mem_bytesL s _).1 (List.mem_of_getElem? hx)).1
    have hup := rngs_le s k (by omega)
    have hi := ih (by omega) j
    obtain ⟨x, hx2⟩ : ∃ x, (bytesL s)[k] = x := ⟨_, rfl⟩
    rw [hx2] at hx hge hlt
    rw [List.take_add_one, hx]
    have e : rngs (List.take k (bytesL s) ++ (some x).toList) = rstep (rngs ((bytesL s).take k)) x := rngs_snoc _ _
    rw [e]
    have hm : decide (j ∈ List.take k (bytesL s) ++ (some x).toList) = (decide (j ∈ List.take k (bytesL s)) || decide (j = x)) := by simp
    rw [hm, ← hi]
    have hsm : SmallR (rngs ((bytesL s).take k)) := rngs_small _ (fun y hy => ((mem_bytesL s y).1 (List.mem_of_mem_take hy)).1)
    rcases List.eq_nil_or_concat (rngs ((bytesL s).take k)) with h0 | ⟨rs', q, hcat⟩
    · rw [h0]
      simp only [rstep, List.getLast?_nil]
      have : decide (x ≤ j ∧ j ≤ x) = decide (j = x) := by rw [decide_eq_decide]; omega
      simp only [cov, List.any_cons, List.any_nil, Bool.or_false, Bool.false_or, this]
    · rw [List.concat_eq_append] at hcat
      have hk0 := rngs_take_nil _ k rs' q hcat
      have hq := hup q (by rw [hcat]; simp)
      have hq2 := (hsm q (by rw [hcat]; simp)).2
      rw [hcat, rstep_other rs' q x hq2 hlt (by omega)]
      split
      · rename_i hqx
        rw [cov_snoc, cov_snoc, Bool.or_assoc]
        congr 1
        rw [← Bool.decide_or, decide_eq_decide]
        simp only
        omega
      · rw [cov_snoc (rs' ++ [q])]
        congr 1
        rw [decide_eq_decide]
        simp only
        omega
theorem rngs_ok (s : BS) : OkR (rngs (bytesL s)) := fun r hr => ⟨rngs_up s r hr, (rngs_small (bytesL s) (fun y hy => ((mem_bytesL s y).1 hy).1) r hr).2⟩
/-- A set is made of its ranges. -/
theorem make_rngs (s : BS) : makeR 0#256 (rngs (bytesL s)) = some s := by
  obtain ⟨u, h1, h2⟩ := makeR_cov _ 0#256 (rngs_ok s)
  rw [h1]
  congr 1
  apply BitVec.eq_of_getLsbD_eq
  intro j hj
  have h3 := rngs_cov s (bytesL s).length (Nat.le_refl _) j
  rw [List.take_length] at h3
  rw [h2, h3]
  have : decide (j ∈ bytesL s) = s.getLsbD j := by
    rw [Bool.eq_iff_iff, decide_eq_true_iff, mem_bytesL]
    simp [hj]
  rw [this]
  simp
theorem byteT_five : ∀ b : Fin 256, (∀ x ∈ byteT b.val, x < 256) ∧ byteT b.val ≠ [] ∧ (byteT b.val).head? ≠ some 45 ∧ (byteT b.val).head? ≠ some 93 ∧ (byteT b.val).head? ≠ some 94 := by decide +kernel
theorem byteB_text (b : Nat) (hb : b < 256) (r : List UInt8) : byteB (u8s (byteT b) ++ r) = (b, (byteT b).length) := by
  have hex : ∀ n : Fin 256, hexs 0 [UInt8.ofNat (hexC (n.val / 16)), UInt8.ofNat (hexC (n.val % 16))] = some n.val := by decide +kernel
  have hsg : ∀ n : Fin 256, signB n.val = true → byteB [92, UInt8.ofNat n.val] = (n.val, 2) := by decide +kernel
  have hn : (UInt8.ofNat b).toNat = b := by simp; omega
  unfold byteT
  by_cases c1 : b = 9
  · rw [if_pos c1, c1]; rfl
  · rw [if_neg c1]
    by_cases c2 : b = 10
    · rw [if_pos c2, c2]; rfl
    · rw [if_neg c2]
      by_cases c3 : b = 13
      · rw [if_pos c3, c3]; rfl
      · rw [if_neg c3]
        cases c4 : signB b with
        | true =>
          rw [if_pos rfl]
          have h := hsg ⟨b, hb⟩ c4
          simp only at h
          rw [byteB_cons, if_pos (by rfl), escB_cons] at h
          show byteB (92 :: UInt8.ofNat b :: r) = _
          rw [byteB_cons, if_pos (by rfl), escB_cons]
          rw [hn] at h ⊢
          rw [c4] at h ⊢
          by_cases d1 : b = 116
          · rw [if_pos d1] at h; cases h; omega
          · rw [if_neg d1] at h ⊢
            by_cases d2 : b = 110
            · rw [if_pos d2] at h; cases h; omega
            · rw [if_neg d2] at h ⊢
              by_cases d3 : b = 114
              · rw [if_pos d3] at h; cases h; omega
              · rw [if_neg d3, if_pos rfl]
                rfl
        | false =>
          rw [if_neg (by simp)]
          by_cases c5 : 32 < b ∧ b ≤ 126
          · rw [if_pos c5]
            have hs : ∀ n : Fin 256, signB n.val = false → n.val ≠ 92 := by decide +kernel
            have := hs ⟨b, hb⟩ c4
            simp only at this
            show byteB (UInt8.ofNat b :: r) = _
            rw [byteB_cons, hn, if_neg this, if_pos ⟨by omega, by omega, c4⟩]
            rfl
          · rw [if_neg c5]
            have h := hex ⟨b, hb⟩
            show byteB (92 :: 120 :: UInt8.ofNat (hexC (b / 16)) :: UInt8.ofNat (hexC (b % 16)) :: r) = _
            rw [byteB_cons, if_pos (by rfl), escB_cons, if_neg (by decide), if_neg (by decide), if_neg (by decide), if_neg (by decide), if_pos ⟨by rfl, by simp⟩]
            simp only at h
            rw [show List.take 2 (UInt8.ofNat (hexC (b / 16)) :: UInt8.ofNat (hexC (b % 16)) :: r) = [UInt8.ofNat (hexC (b / 16)), UInt8.ofNat (hexC (b % 16))] from rfl, h]
            simp only
            rw [Nat.mod_eq_of_lt hb]
            rfl
/-- A text that begins with no -, no ] and no ^. -/
def Mild (l : List UInt8) : Prop := ∃ c t, l = c :: t ∧ c ≠ 45 ∧ c ≠ 94
theorem byteT_head (b : Nat) (hb : b < 256) : ∃ c t, byteT b = c :: t ∧ c < 256 ∧ c ≠ 45 ∧ c ≠ 93 ∧ c ≠ 94 := by
  have h := byteT_five ⟨b, hb⟩
  simp only at h
  cases e : byteT b with
  | nil => exact absurd e h.2.1
  | cons c t =>
    rw [e] at h
    refine ⟨c, t, rfl, h.1 c (by simp), ?_, ?_, ?_⟩
    · intro k; exact h.2.2.1 (by rw [k]; rfl)
    · intro k; exact h.2.2.2.1 (by rw [k]; rfl)
    · intro k; exact h.2.2.2.2 (by rw [k]; rfl)
theorem ofNat_ne {c k : Nat} (hc : c < 256) (hk : k < 256) (h : c ≠ k) : UInt8.ofNat c ≠ UInt8.ofNat k := by
  intro e
  apply h
  have := congrArg UInt8.toNat e
  simp at this
  omega
theorem mild_byte (b : Nat) (hb : b < 256) (r : List UInt8) : Mild (u8s (byteT b) ++ r) ∧ u8s (byteT b) ++ r ≠ [93] := by
  obtain ⟨c, t, e, hc, h1, h2, h3⟩ := byteT_head b hb
  rw [e]
  refine ⟨⟨UInt8.ofNat c, u8s t ++ r, by simp [u8s], ofNat_ne hc (by decide) h1, ofNat_ne hc (by decide) h3⟩, ?_⟩
  intro k
  simp [u8s] at k
  exact ofNat_ne hc (by decide : 93 < 256) h2 k.1
theorem Mild.not45 {l : List UInt8} (h : Mild l) : Lib.hasPrefix l [45] = false := by
  obtain ⟨c, t, rfl, h1, _⟩ := h
  rw [pre1_cons]; simp [h1]
theorem Mild.not94 {l : List UInt8} (h : Mild l) : Lib.hasPrefix l [94] = false := by
  obtain ⟨c, t, rfl, _, h1⟩ := h
  rw [pre1_cons]; simp [h1]
theorem rangeT_head (r : Nat × Nat) : ∃ m, rangeT r = byteT r.1 ++ m := by
  unfold rangeT
  split
  · exact ⟨[], by simp⟩
  · split
    · exact ⟨_, by rw [List.append_assoc]⟩
    · exact ⟨_, rfl⟩
theorem mild_rest (rs : List (Nat × Nat)) (h : OkR rs) : Mild (u8s (rangesT rs ++ [93])) := by
  cases rs with
  | nil => exact ⟨93, [], rfl, by decide, by decide⟩
  | cons r rs =>
    obtain ⟨m, hm⟩ := rangeT_head r
    have hr := h r (by simp)
    have e : u8s (rangesT (r :: rs) ++ [93]) = u8s (byteT r.1) ++ (u8s m ++ u8s (rangesT rs ++ [93])) := by
      simp [rangesT, hm, u8s]
    rw [e]
    exact (mild_byte r.1 (by omega) _).1
theorem drop_text (b : Nat) (r : List UInt8) : (u8s (byteT b) ++ r).drop (byteT b).length = r := by
  have : (u8s (byteT b)).length = (byteT b).length := by simp [u8s]
  rw [← this, List.drop_left]
theorem drop_text1 (b : Nat) (c : UInt8) (r : List UInt8) : (u8s (byteT b) ++ c :: r).drop ((byteT b).length + 1) = r := by
  rw [← List.drop_drop, drop_text]; rfl
theorem byteT_pos (b : Nat) (hb : b < 256) : (byteT b).length ≠ 0 := by
  obtain ⟨c, t, e, _⟩ := byteT_head b hb
  rw [e]; simp
/-- One byte's item, what follows being no -. -/
theorem item_byte (b : Nat) (hb : b < 256) (r : List UInt8) (hr : Mild r) : itemB (u8s (byteT b) ++ r) = ((b, b), (byteT b).length) := by
  have h := byteB_text b hb r
  rw [item_one]
  · rw [h]
  · rw [h]; exact byteT_pos b hb
  · rw [h]; show Lib.hasPrefix ((u8s (byteT b) ++ r).drop (byteT b).length) [45] = false
    rw [drop_text]; exact hr.not45
theorem item_pair (b c : Nat) (hb : b < 256) (hc : c < 256) (h : b ≤ c) (r : List UInt8) : itemB (u8s (byteT b) ++ 45 :: (u8s (byteT c) ++ r)) = ((b, c), (byteT b).length + 1 + (byteT c).length) := by
  have h1 := byteB_text b hb (45 :: (u8s (byteT c) ++ r))
  have h2 := byteB_text c hc r
  rw [item_two]
  · rw [h1]
    simp only
    rw [drop_text1, h2]
  · rw [h1]; exact byteT_pos b hb
  · rw [h1]; show Lib.hasPrefix ((u8s (byteT b) ++ 45 :: (u8s (byteT c) ++ r)).drop (byteT b).length) [45] = true
    rw [drop_text, pre1_cons]; simp
  · rw [h1]; simp only; rw [drop_text1, h2]; exact byteT_pos c hc
  · rw [h1]; simp only; rw [drop_text1, h2]; simp only; omega
theorem addR_two (s : BS) (a : Nat) (ha : a + 1 < 256) : addR (addR s (a, a)) (a + 1, a + 1) = addR s (a, a + 1) := by
  apply BitVec.eq_of_getLsbD_eq
  intro j hj
  rw [addR_bit _ _ _ (by simpa using ha), addR_bit _ _ _ (by simp; omega), addR_bit _ _ _ (by simpa using ha), Bool.or_assoc]
  congr 1
  rw [← Bool.decide_or, decide_eq_decide]
  simp only
  omega
theorem items_text (rs : List (Nat × Nat)) : ∀ s : BS, OkR rs → readItems ((u8s (rangesT rs ++ [93])).length + 1) s (u8s (rangesT rs ++ [93])) = makeR s rs := by
  induction rs with
  | nil => intro s _; exact items_end s
  | cons r rs ih =>
    intro s h
    have hr := h r (by simp)
    have hrs : OkR rs := fun x hx => h x (by simp [hx])
    have hm := mild_rest rs hrs
    have e : u8s (rangesT (r :: rs) ++ [93]) = u8s (rangeT r) ++ u8s (rangesT rs ++ [93]) := by simp [rangesT, u8s]
    rw [e, makeR, if_neg (by omega)]
    have IH := ih
    generalize hR : u8s (rangesT rs ++ [93]) = R at *
    clear hR
    obtain ⟨a, b⟩ := r
    simp only at hr
    unfold rangeT
    simp only
    split
    · rename_i hab
      subst hab
      have hi := item_byte a (by omega) R hm
      rw [items_step _ _ (mild_byte a (by omega) R).2 (by rw [hi]; exact byteT_pos a (by omega)), hi]
      simp only
      rw [drop_text]
      exact IH _ hrs
    · split
      · have e2 : u8s (byteT a ++ [45] ++ byteT b) ++ R = u8s (byteT a) ++ 45 :: (u8s (byteT b) ++ R) := by simp [u8s]
        rw [e2]
        have hi := item_pair a b (by omega) (by omega) (by omega) R
        rw [items_step _ _ (mild_byte a (by omega) _).2 (by rw [hi]; simp), hi]
        simp only
        rw [← List.drop_drop, drop_text1, drop_text]
        exact IH _ hrs
      · have hb : b = a + 1 := by omega
        subst hb
        have e2 : u8s (byteT a ++ byteT (a + 1)) ++ R = u8s (byteT a) ++ (u8s (byteT (a + 1)) ++ R) := by simp [u8s]
        rw [e2]
        have hi := item_byte a (by omega) _ (mild_byte (a + 1) (by omega) R).1
        rw [items_step _ _ (mild_byte a (by omega) _).2 (by rw [hi]; exact byteT_pos a (by omega)), hi]
        simp only
        rw [drop_text]
        have hj := item_byte (a + 1) (by omega) R hm
        rw [items_step _ _ (mild_byte (a + 1) (by omega) R).2 (by rw [hj]; exact byteT_pos (a + 1) (by omega)), hj]
        simp only
        rw [drop_text, IH _ hrs, addR_two _ _ (by omega)]
/-- A set is read as it was told. -/
theorem read_text (s : BS) : readS (u8s (textS s)) = some s := by
  unfold textS
  split
  · have e : u8s ([91, 94] ++ rangesT (rngs (bytesL (~~~s))) ++ [93]) = 91 :: 94 :: u8s (rangesT (rngs (bytesL (~~~s))) ++ [93]) := by simp [u8s]
    rw [readS_rest _ 94 _ e, e]
    simp only [if_true, List.drop_succ_cons, List.drop_zero]
    rw [items_text _ _ (rngs_ok _), make_rngs]
    simp [restS]
  · have e : u8s ([91] ++ rangesT (rngs (bytesL s)) ++ [93]) = 91 :: u8s (rangesT (rngs (bytesL s)) ++ [93]) := by simp [u8s]
    obtain ⟨c, t, hc, h1, h2⟩ := mild_rest (rngs (bytesL s)) (rngs_ok s)
    rw [e, readS_rest _ c t (by rw [hc]), if_neg h2]
    simp only [List.drop_succ_cons, List.drop_zero]
    rw [items_text _ _ (rngs_ok _), make_rngs]
    simp [restS, h2]

/-- A set. -/
theorem next_set (s : BS) (r : List UInt8) : nextW (u8s (textS s) ++ r) = some (⟨3, ⟨#[]⟩, s, 0⟩, (textS s).length) := by
  have hl := setL_text s r
  have hlen : (u8s (textS s)).length = (textS s).length := by simp [u8s]
  have hO : setO (u8s (textS s) ++ r) = some s := by
    unfold setO
    rw [hl, ← hlen, List.take_left, read_text]
  obtain ⟨t, ht⟩ : ∃ t, u8s (textS s) ++ r = 91 :: t := by
    unfold textS
    split
    · exact ⟨_, by simp only [u8s, List.map_append, List.map_cons, List.map_nil, List.cons_append]; rfl⟩
    · exact ⟨_, by simp only [u8s, List.map_append, List.map_cons, List.map_nil, List.cons_append]; rfl⟩
  rw [ht] at hO hl ⊢
  rw [nextW_of (91 :: t) 91 t rfl 91 rfl, if_neg (by decide), if_neg (by decide), if_neg (by decide), if_pos rfl, hO, hl]
  rfl
end Go.Proofs.YtdodkbpagbblmaaDoor
end
section
namespace Go.Proofs.YtdodkbpagbblmaaDoor
open Go Go.RowKit

theorem bytes_of_toList {s t : ByteArray} (h : s.toList = t.toList) : s = t := by
  rw [ByteArray.toList_eq, ByteArray.toList_eq] at h
  exact WideShapes.bytes_inj h
/-- What is the same as its bare word is that word. -/
theorem sameW_is {x y : Wd} (h : sameW x y = true) : x = y := by
  unfold sameW at h
  simp only [Bool.and_eq_true, beq_iff_eq] at h
  obtain ⟨h1, h2, h3, h4⟩ := h
  obtain ⟨a, b, c, d⟩ := x
  obtain ⟨a', b', c', d'⟩ := y
  simp only at h1 h2 h3 h4
  obtain rfl := h1
  obtain rfl := bytes_of_toList h2
  obtain rfl := h3
  obtain rfl := h4
  rfl
/-- A word is read as it was told. -/
theorem next_word (x : Wd) (h : mayB x = true) (r : List UInt8) (hr : Stop r) : nextW (u8s (wordF x) ++ r) = some (x, (wordF x).length) := by
  unfold mayB at h
  rw [Bool.and_eq_true] at h
  obtain ⟨h1, h2⟩ := h
  have hx := sameW_is h2
  obtain ⟨kd, tx, st, nm⟩ := x
  have hmap : ∀ l : List UInt8, (l.map UInt8.toNat).length = l.length := fun l => List.length_map _
  by_cases c1 : kd = 1
  · subst c1
    have hx' : (⟨1, tx, st, nm⟩ : Wd) = ⟨1, tx, 0#256, 0⟩ := hx
    rw [hx']
    have hn : nameB tx.data.toList = true := h1
    show nextW (u8s (tx.data.toList.map UInt8.toNat) ++ r) = some (_, (tx.data.toList.map UInt8.toNat).length)
    rw [u8s_toNat, hmap]
    exact next_name tx r hn hr
  by_cases c2 : kd = 2
  · subst c2
    have hx' : (⟨2, tx, st, nm⟩ : Wd) = ⟨2, tx, 0#256, 0⟩ := hx
    rw [hx']
    exact next_text tx r
  by_cases c3 : kd = 3
  · subst c3
    have hx' : (⟨3, tx, st, nm⟩ : Wd) = ⟨3, ⟨#[]⟩, st, 0⟩ := hx
    rw [hx']
    exact next_set st r
  by_cases c4 : kd = 4
  · subst c4
    have hx' : (⟨4, tx, st, nm⟩ : Wd) = ⟨4, ⟨#[]⟩, 0#256, nm⟩ := hx
    rw [hx']
    have hn : decide (0 ≤ nm ∧ nm ≤ 999999999) = true := h1
    have hn := of_decide_eq_true hn
    show nextW (u8s ((Lib.itoa nm).map UInt8.toNat) ++ r) = some (_, ((Lib.itoa nm).map UInt8.toNat).length)
    rw [u8s_toNat, hmap]
    exact next_number nm hn.1 hn.2 r hr
  by_cases c5 : kd = 5
  · subst c5
    have hx' : (⟨5, tx, st, nm⟩ : Wd) = ⟨5, tx, 0#256, 0⟩ := hx
    rw [hx']
    have hn : signT tx.data.toList = true := h1
    show nextW (u8s (tx.data.toList.map UInt8.toNat) ++ r) = some (_, (tx.data.toList.map UInt8.toNat).length)
    rw [u8s_toNat, hmap]
    match hl : tx.data.toList with
    | [] => rw [hl] at hn; cases hn
    | [c] =>
      rw [hl] at hn
      have := next_sign tx c r hl hn
      rw [hl] at this
      exact this
    | c :: d :: l => rw [hl] at hn; cases hn
  · have hn : okW ⟨kd, tx, st, nm⟩ = false := by unfold okW; simp [c1, c2, c3, c4, c5]
    rw [hn] at h1
    cases h1

/-- What begins with a word begins with no blank and no comment. -/
theorem skipL_word (l : List UInt8) (p : Wd × Nat) (h : nextW l = some p) : skipL l = 0 := by
  cases l with
  | nil => rfl
  | cons c r =>
    rw [nextW_of (c :: r) c r rfl c.toNat rfl] at h
    have hc : blkB c.toNat = false ∧ c.toNat ≠ 47 := by
      have hn : ∀ n : Fin 256, (letB n.val || decide (n.val = 95)) = true ∨ digB n.val = true ∨ n.val = 34 ∨ n.val = 91 ∨ sgnB n.val = true → blkB n.val = false ∧ n.val ≠ 47 := by decide +kernel
      refine hn ⟨c.toNat, c.toNat_lt⟩ ?_
      simp only
      by_cases a1 : (letB c.toNat || decide (c.toNat = 95)) = true
      · exact .inl a1
      · rw [if_neg a1] at h
        by_cases a2 : digB c.toNat = true
        · exact .inr (.inl a2)
        · rw [if_neg a2] at h
          by_cases a3 : c.toNat = 34
          · exact .inr (.inr (.inl a3))
          · rw [if_neg a3] at h
            by_cases a4 : c.toNat = 91
            · exact .inr (.inr (.inr (.inl a4)))
            · rw [if_neg a4] at h
              by_cases a5 : sgnB c.toNat = true
              · exact .inr (.inr (.inr (.inr a5)))
              · rw [if_neg a5] at h; cases h
    refine skipL_end c r hc.1 ?_
    have h47 : (47 == c) = false := by
      rw [beq_eq_false_iff_ne]
      intro e
      exact hc.2 (by rw [← e]; rfl)
    cases r with
    | nil => simp [Lib.hasPrefix, List.isPrefixOf]
    | cons d r =>
      unfold Lib.hasPrefix
      simp only [List.isPrefixOf, h47, Bool.false_and]

theorem lexAt_word (x : Wd) (h : mayB x = true) (r : List UInt8) (hr : Stop r) (k : Nat) :
    lexAt (u8s (wordF x) ++ r) k = ((x, k) :: (lexAt r (k + (wordF x).length)).1, (lexAt r (k + (wordF x).length)).2) := by
  have hn := next_word x h r hr
  have hs := skipL_word _ _ hn
  have hlen : (u8s (wordF x)).length = (wordF x).length := by simp [u8s]
  have hp := nextW_len _ _ hn
  have h0 : (u8s (wordF x) ++ r).drop (skipL (u8s (wordF x) ++ r)) = u8s (wordF x) ++ r := by rw [hs]; rfl
  have hne : u8s (wordF x) ++ r ≠ [] := fun e => by rw [e] at hp; obtain ⟨h1, h2⟩ := hp; simp only [List.length_nil] at h1 h2; omega
  have h1 := lexAt_step (u8s (wordF x) ++ r) k (x, (wordF x).length) (by rw [h0]; exact hne) (by rw [h0]; exact hn)
  rw [h1, h0, hs]
  simp only [Nat.add_zero]
  rw [← hlen, List.drop_left]
theorem stop_nil : Stop [] := fun c t h => by cases h
theorem stop_tail (l : List (Wd × Int)) : Stop (u8s (tailW l)) := by
  intro c t h
  cases l with
  | nil => simp [tailW, u8s] at h
  | cons x l =>
    simp [tailW, u8s] at h
    rw [← h.1]
    rfl
/-- Words told one behind the other are read as they were. -/
theorem lexAt_tail (l : List (Wd × Int)) (hl : ∀ x ∈ l, mayB x.1 = true) : ∀ k, ∃ ws, lexAt (u8s (tailW l)) k = (ws, none) ∧ ws.map (·.1) = l.map (·.1) := by
  induction l with
  | nil => intro k; exact ⟨[], lexAt_end _ _ rfl, rfl⟩
  | cons x l ih =>
    intro k
    obtain ⟨ws, h1, h2⟩ := ih (fun y hy => hl y (by simp [hy])) (k + 1 + (wordF x.1).length)
    have e : u8s (tailW (x :: l)) = 32 :: (u8s (wordF x.1) ++ u8s (tailW l)) := by simp [tailW, u8s]
    have hw := lexAt_word x.1 (hl x (by simp)) (u8s (tailW l)) (stop_tail l) (k + 1)
    have hs : lexAt (32 :: (u8s (wordF x.1) ++ u8s (tailW l))) k = lexAt (u8s (wordF x.1) ++ u8s (tailW l)) (k + 1) := by
      refine lexAt_skip _ _ _ _ ?_ ?_
      · rw [skipL_blank 32 _ (by decide)]; rfl
      · rw [skipL_blank 32 _ (by decide)]; omega
    rw [e, hs, hw, h1]
    exact ⟨_, rfl, by simp [h2]⟩
theorem lexAt_joinW (l : List (Wd × Int)) (hl : ∀ x ∈ l, mayB x.1 = true) : ∃ ws, lexAt (u8s (joinW l)) 0 = (ws, none) ∧ ws.map (·.1) = l.map (·.1) := by
  cases l with
  | nil => exact ⟨[], lexAt_end _ _ rfl, rfl⟩
  | cons x l =>
    obtain ⟨ws, h1, h2⟩ := lexAt_tail l (fun y hy => hl y (by simp [hy])) (0 + (wordF x.1).length)
    have e : u8s (joinW (x :: l)) = u8s (wordF x.1) ++ u8s (tailW l) := by simp [joinW, u8s]
    rw [e, lexAt_word x.1 (hl x (by simp)) _ (stop_tail l) 0, h1]
    exact ⟨_, rfl, by simp [h2]⟩
end Go.Proofs.YtdodkbpagbblmaaDoor
end
section
namespace Go.Proofs.YtdodkbpagbblmaaDoor
open Go Go.RowKit

theorem runL_take (l : List UInt8) : runL (l.take (runL l)) = (l.take (runL l)).length := by
  induction l with
  | nil => rfl
  | cons c l ih =>
    rw [runL_cons]
    cases hc : namB c.toNat with
    | false => rfl
    | true =>
      rw [if_pos rfl, List.take_succ_cons, runL_cons, hc, if_pos rfl, ih, List.length_cons]
theorem bytesOf_list (l : List UInt8) : (bytesOf l).data.toList = l := rfl
theorem sameW_self (x : Wd) : sameW x x = true := by unfold sameW; simp
/-- What is read may be. -/
theorem next_may (l : List UInt8) (p : Wd × Nat) (h : nextW l = some p) : mayB p.1 = true := by
  have hself : ∀ x : Wd, bareW x = x → okW x = true → mayB x = true := fun x h1 h2 => by
    unfold mayB
    rw [h1, h2, sameW_self]
    rfl
  cases l with
  | nil => cases h
  | cons c r =>
    rw [nextW_of (c :: r) c r rfl c.toNat rfl] at h
    split at h
    · split at h
      · rename_i hn
        cases h
        exact hself _ rfl hn
      · cases h
    · split at h
      · rename_i hd
        rw [Option.map_eq_some_iff] at h
        obtain ⟨v, hv, rfl⟩ := h
        refine hself _ rfl ?_
        have hd2 : 48 ≤ c.toNat ∧ c.toNat ≤ 57 := by simpa [digB] using hd
        have hpos := runL_pos c r (dig_named hd)
        unfold numO at hv
        split at hv
        · rename_i hle
          split at hv
          · rename_i w hw
            split at hv
            · rename_i hit
              obtain rfl := Option.some.inj hv
              have hge : 0 ≤ w := by
                rcases Int.lt_or_le w 0 with hneg | hge
                · exfalso
                  have e : Lib.itoa w = 45 :: Lib.decDigits w.natAbs := by unfold Lib.itoa; rw [if_pos hneg]
                  rw [e] at hit
                  obtain ⟨q, hq⟩ : ∃ q, runL (c :: r) = q + 1 := ⟨_, (Nat.sub_add_cancel hpos).symm⟩
                  rw [hq, List.take_succ_cons] at hit
                  have := (List.cons.inj hit).1
                  rw [← this] at hd2
                  exact absurd hd2 (by decide)
                · exact hge
              show decide (0 ≤ w ∧ w ≤ 999999999) = true
              refine decide_eq_true ⟨hge, ?_⟩
              obtain ⟨u, rfl⟩ : ∃ u : Nat, w = (u : Int) := ⟨w.toNat, by omega⟩
              rw [Lib.itoa_nonneg] at hit
              have hl : (Lib.decDigits u).length ≤ 9 := by rw [hit, List.length_take]; omega
              have hbig : ∀ (k u : Nat), (Lib.decDigits u).length ≤ k + 1 → u < 10 ^ (k + 1) := by
                intro k
                induction k with
                | zero =>
                  intro u h
                  by_cases h1 : u < 10
                  · omega
                  · rw [decDigits_more h1, List.length_append, List.length_singleton] at h
                    have := List.length_pos_iff.2 (decDigits_ne (u / 10))
                    omega
                | succ k ih =>
                  intro u h
                  by_cases h1 : u < 10
                  · exact Nat.lt_of_lt_of_le h1 (by rw [Nat.pow_succ]; exact Nat.le_mul_of_pos_left 10 (Nat.pow_pos (by omega)))
                  · rw [decDigits_more h1, List.length_append, List.length_singleton] at h
                    have := ih (u / 10) (by omega)
                    rw [Nat.pow_succ]
                    omega
              have := hbig 8 u hl
              have ten : 10 ^ (8 + 1) = 1000000000 := by decide
              omega
            · cases hv
          · cases hv
        · cases hv
      · split at h
        · rw [Option.map_eq_some_iff] at h
          obtain ⟨q, _, rfl⟩ := h
          exact hself _ rfl rfl
        · split at h
          · rw [Option.map_eq_some_iff] at h
            obtain ⟨q, _, rfl⟩ := h
            exact hself _ rfl rfl
          · split at h
            · rename_i hs
              cases h
              exact hself _ rfl hs
            · cases h
theorem lexAt_may : ∀ (n : Nat) (l : List UInt8), l.length ≤ n → ∀ k, ∀ p ∈ (lexAt l k).1, mayB p.1 = true := by
  intro n
  induction n with
  | zero =>
    intro l h k p hp
    have : l = [] := List.length_eq_zero_iff.1 (by omega)
    subst this
    rw [lexAt_end [] _ rfl] at hp
    cases hp
  | succ n ih =>
    intro l h k p hp
    by_cases he : l.drop (skipL l) = []
    · rw [lexAt_end l _ he] at hp; cases hp
    · cases hn : nextW (l.drop (skipL l)) with
      | none => rw [lexAt_bad l _ he hn] at hp; cases hp
      | some q =>
        have hq := nextW_len _ q hn
        have hl2 : ((l.drop (skipL l)).drop q.2).length + q.2 + skipL l = l.length := by
          have hle := skipL_le l
          rw [List.length_drop] at hq ⊢
          rw [List.length_drop]
          omega
        rw [lexAt_step l _ q he hn] at hp
        rcases List.mem_cons.1 hp with rfl | hp
        · exact next_may _ q hn
        · exact ih _ (by omega) _ p hp
end Go.Proofs.YtdodkbpagbblmaaDoor
end
section
namespace Go.Proofs.YtdodkbpagbblmaaDoor
open Go Go.RowKit

/-! ### how long a word that is read is told -/
def prevB (f : Nat → Bool) : Nat → Bool
  | 0 => false
  | n + 1 => f n
/-- How many runs begin below a number. -/
def runsN (f : Nat → Bool) : Nat → Nat
  | 0 => 0
  | n + 1 => runsN f n + (if (f n && !prevB f n) = true then 1 else 0)
theorem runsN_step (f : Nat → Bool) (n : Nat) : runsN f (n + 1) = runsN f n + (if (f n && !prevB f n) = true then 1 else 0) := rfl
theorem runs_congr (f g : Nat → Bool) : ∀ n, (∀ j, j < n → f j = g j) → runsN f n = runsN g n := by
  intro n
  induction n with
  | zero => intro _; rfl
  | succ n ih =>
    intro h
    have hp : prevB f n = prevB g n := by
      cases n with
      | zero => rfl
      | succ m => exact h m (by omega)
    rw [runsN_step, runsN_step, ih (fun j hj => h j (by omega)), h n (by omega), hp]
theorem runs_le (f g : Nat → Bool) (a : Nat) (h : ∀ j, (g j && !prevB g j) = true → (f j && !prevB f j) = true ∨ j = a) : ∀ n, runsN g n ≤ runsN f n + (if a < n then 1 else 0) := by
  intro n
  induction n with
  | zero => simp [runsN]
  | succ n ih =>
    rw [runsN_step, runsN_step]
    by_cases hg : (g n && !prevB g n) = true
    · rcases h n hg with hf | rfl
      · rw [if_pos hg, if_pos hf]
        by_cases h1 : a < n
        · rw [if_pos h1] at ih
          rw [if_pos (by omega : a < n + 1)]
          omega
        · rw [if_neg h1] at ih
          omega
      · rw [if_pos hg]
        rw [if_neg (Nat.lt_irrefl n)] at ih
        rw [if_pos (Nat.lt_succ_self n)]
        omega
    · rw [if_neg hg]
      by_cases h1 : a < n
      · rw [if_pos h1] at ih
        rw [if_pos (by omega : a < n + 1)]
        omega
      · rw [if_neg h1] at ih
        omega
theorem runs_not (f : Nat → Bool) : ∀ n, runsN (fun j => !f j) n ≤ runsN f n + (if prevB f n = true then 0 else 1) := by
  intro n
  induction n with
  | zero => simp [runsN]
  | succ n ih =>
    have e3 : prevB f (n + 1) = f n := rfl
    rw [runsN_step, runsN_step, e3]
    cases n with
    | zero => cases h : f 0 <;> simp [runsN, prevB]
    | succ m =>
      have e1 : prevB (fun j => !f j) (m + 1) = !f m := rfl
      have e2 : prevB f (m + 1) = f m := rfl
      rw [e2] at ih
      rw [e1, e2]
      generalize runsN (fun j => !f j) (m + 1) = A at ih ⊢
      generalize runsN f (m + 1) = B at ih ⊢
      cases h1 : f (m + 1) <;> cases h2 : f m <;> simp [h2] at ih ⊢ <;> omega
theorem range_more (f : Nat → Bool) (n : Nat) : (List.range' 0 (n + 1)).filter f = (List.range' 0 n).filter f ++ (if f n = true then [n] else []) := by
  rw [List.range'_concat, List.filter_append]
  congr 1
  simp only [Nat.zero_add, Nat.one_mul]
  cases h : f n <;> simp [h]
theorem rngs_runs (f : Nat → Bool) : ∀ n, n ≤ 256 → (rngs ((List.range' 0 n).filter f)).length ≤ runsN f n ∧ (prevB f n = true → ∃ rs r, rngs ((List.range' 0 n).filter f) = rs ++ [r] ∧ r.2 + 1 = n) := by
  intro n
  induction n with
  | zero => intro _; exact ⟨by simp [rngs, runsN], fun h => by simp [prevB] at h⟩
  | succ n ih =>
    intro hn
    obtain ⟨i1, i2⟩ := ih (by omega)
    rw [range_more, runsN_step]
    cases hf : f n with
    | false =>
      refine ⟨?_, fun h => ?_⟩
      · simp
        exact i1
      · have e3 : prevB f (n + 1) = f n := rfl
        rw [e3, hf] at h
        cases h
    | true =>
      rw [if_pos rfl, rngs_snoc]
      refine ⟨?_, fun _ => ?_⟩
      · cases hp : prevB f n with
        | true =>
          obtain ⟨rs, r, h1, h2⟩ := i2 hp
          rw [h1] at i1 ⊢
          simp only [rstep, List.getLast?_append, List.getLast?_singleton, Option.some_or]
          rw [if_pos (by omega)]
          simp at i1 ⊢
          omega
        | false =>
          have := rstep_length (rngs ((List.range' 0 n).filter f)) n
          simp
          omega
      · rcases list_rev_cases (rngs ((List.range' 0 n).filter f)) with h | ⟨rs', r, h⟩
        · rw [h]; exact ⟨[], (n, n), rfl, rfl⟩
        · rw [h]
          simp only [rstep, List.getLast?_append, List.getLast?_singleton, Option.some_or]
          split
          · exact ⟨rs', (r.1, n), by simp, rfl⟩
          · exact ⟨rs' ++ [r], (n, n), rfl, rfl⟩

/-- How many runs of bytes a set has. -/
def runsS (s : BS) : Nat := runsN (fun j => s.getLsbD j) 256
theorem rngs_runsS (s : BS) : (rngs (bytesL s)).length ≤ runsS s := (rngs_runs _ 256 (Nat.le_refl _)).1
theorem runsS_not (s : BS) : runsS (~~~s) ≤ runsS s + 1 := by
  unfold runsS
  rw [runs_congr (fun j => (~~~s).getLsbD j) (fun j => !s.getLsbD j) 256 (fun j hj => by simp [hj])]
  have := runs_not (fun j => s.getLsbD j) 256
  split at this <;> omega
theorem runsS_addR (s : BS) (r : Nat × Nat) (h : r.2 < 256) : runsS (addR s r) ≤ runsS s + 1 := by
  have h1 := runs_le (fun j => s.getLsbD j) (fun j => (addR s r).getLsbD j) r.1 (fun j hj => by
    simp only [Bool.and_eq_true, Bool.not_eq_true'] at hj ⊢
    obtain ⟨h1, h2⟩ := hj
    rw [addR_bit s r j h] at h1
    cases j with
    | zero =>
      by_cases hs : s.getLsbD 0 = true
      · exact .inl ⟨hs, rfl⟩
      · right
        rw [Bool.or_eq_true] at h1
        have := of_decide_eq_true (h1.resolve_left hs)
        omega
    | succ i =>
      have h2 : (addR s r).getLsbD i = false := h2
      rw [addR_bit s r i h] at h2
      simp only [Bool.or_eq_false_iff, decide_eq_false_iff_not] at h2
      by_cases hs : s.getLsbD (i + 1) = true
      · exact .inl ⟨hs, h2.1⟩
      · right
        rw [Bool.or_eq_true] at h1
        have := of_decide_eq_true (h1.resolve_left hs)
        omega) 256
  unfold runsS
  split at h1 <;> omega
theorem items_runs : ∀ (f : Nat) (u : BS) (l : List UInt8) (s : BS), readItems f u l = some s → runsS s ≤ runsS u + l.length := by
  intro f
  induction f with
  | zero => intro u l s h; simp [readItems] at h
  | succ f ih =>
    intro u l s h
    unfold readItems at h
    split at h
    · cases h; omega
    · split at h
      · cases h
      · have h1 := itemB_lt l
        have h2 := ih _ _ _ h
        have h3 := runsS_addR u (itemB l).1 h1.2.1
        rw [List.length_drop] at h2
        omega
theorem runs_zero : runsS 0#256 = 0 := by
  unfold runsS
  have h : ∀ n, runsN (fun j => (0#256 : BS).getLsbD j) n = 0 := by
    intro n
    induction n with
    | zero => rfl
    | succ n ih => rw [runsN_step, ih]; simp
  exact h 256
theorem readS_runs (l : List UInt8) (s : BS) (h : readS l = some s) : runsS s ≤ l.length + 1 := by
  have t1 := trim_len l [91]
  have t2 := trim_len (Lib.trimPrefix l [91]) [94]
  unfold readS at h
  split at h
  · split at h
    · rw [Option.map_eq_some_iff] at h
      obtain ⟨u, hu, rfl⟩ := h
      have h1 := items_runs _ _ _ _ hu
      have h2 := runsS_not u
      rw [runs_zero] at h1
      omega
    · have h1 := items_runs _ _ _ _ h
      rw [runs_zero] at h1
      omega
  · cases h
theorem textS_runs (s : BS) : (textS s).length ≤ 9 * runsS s + 12 := by
  have h1 := rangesT_len (rngs (bytesL s))
  have h2 := rngs_runsS s
  have h3 := rangesT_len (rngs (bytesL (~~~s)))
  have h4 := rngs_runsS (~~~s)
  have h5 := runsS_not s
  unfold textS
  split
  · simp only [List.length_append, List.length_cons, List.length_nil]
    omega
  · simp only [List.length_append, List.length_cons, List.length_nil]
    omega
theorem textF_room : ∀ (f : Nat) (l : List UInt8) (p : List Nat × Nat), textF f l = some p → p.1.length ≤ p.2 := by
  intro f
  induction f with
  | zero => intro l p h; simp [textF] at h
  | succ f ih =>
    intro l p h
    unfold textF at h
    split at h
    · cases h; simp
    · split at h
      · cases h
      · rename_i h0
        rw [Option.map_eq_some_iff] at h
        obtain ⟨q, hq, rfl⟩ := h
        have h1 := ih _ _ hq
        simp only [List.length_cons]
        omega
/-- A word that is read is not told much longer than it stood there. -/
theorem next_told (l : List UInt8) (p : Wd × Nat) (h : nextW l = some p) : (wordF p.1).length ≤ 9 * p.2 + 40 := by
  cases l with
  | nil => cases h
  | cons c r =>
    rw [nextW_of (c :: r) c r rfl c.toNat rfl] at h
    split at h
    · split at h
      · cases h
        show (((bytesOf ((c :: r).take (runL (c :: r)))).data.toList).map UInt8.toNat).length ≤ _
        rw [List.length_map, bytesOf_list, List.length_take]
        simp only
        omega
      · cases h
    · split at h
      · rw [Option.map_eq_some_iff] at h
        obtain ⟨v, hv, rfl⟩ := h
        show ((Lib.itoa v).map UInt8.toNat).length ≤ _
        have hl : (Lib.itoa v).length ≤ runL (c :: r) := by
          unfold numO at hv
          split at hv
          · split at hv
            · split at hv
              · rename_i hit
                obtain rfl := Option.some.inj hv
                rw [hit, List.length_take]
                omega
              · cases hv
            · cases hv
          · cases hv
        rw [List.length_map]
        simp only
        omega
      · split at h
        · rw [Option.map_eq_some_iff] at h
          obtain ⟨q, hq, rfl⟩ := h
          show (quoteF (bytesStr q.1).data.toList).length ≤ _
          have h1 := quoteF_len (bytesStr q.1).data.toList
          have h2 := textF_room _ _ _ hq
          rw [bytesStr_list, List.length_map] at h1
          rw [bytesStr_list]
          simp only
          omega
        · split at h
          · rw [Option.map_eq_some_iff] at h
            obtain ⟨s, hs, rfl⟩ := h
            show (textS s).length ≤ _
            have h1 := readS_runs _ _ hs
            have h2 := textS_runs s
            rw [List.length_take] at h1
            simp only
            omega
          · split at h
            · cases h
              show (((bytesOf ((c :: r).take 1)).data.toList).map UInt8.toNat).length ≤ _
              rw [List.length_map, bytesOf_list, List.length_take]
              omega
            · cases h
theorem lexAt_told : ∀ (n : Nat) (l : List UInt8), l.length ≤ n → ∀ k, (tailW (withI (lexAt l k).1)).length ≤ 50 * l.length := by
  intro n
  induction n with
  | zero =>
    intro l h k
    have : l = [] := List.length_eq_zero_iff.1 (by omega)
    subst this
    rw [lexAt_end [] _ rfl]
    simp [withI, tailW]
  | succ n ih =>
    intro l h k
    have hle := skipL_le l
    by_cases he : l.drop (skipL l) = []
    · rw [lexAt_end l _ he]; simp [withI, tailW]
    · cases hn : nextW (l.drop (skipL l)) with
      | none =>
        rw [lexAt_bad l _ he hn]
        simp [withI, tailW]
      | some p =>
        have hp := nextW_len _ p hn
        have ht := next_told _ p hn
        have hl2 : ((l.drop (skipL l)).drop p.2).length + p.2 + skipL l = l.length := by
          rw [List.length_drop] at hp ⊢
          rw [List.length_drop]
          omega
        have i1 := ih ((l.drop (skipL l)).drop p.2) (by omega) (k + skipL l + p.2)
        rw [lexAt_step l _ p he hn]
        have e : ∀ (x : Wd × Nat) (xs : List (Wd × Nat)), tailW (withI (x :: xs)) = 32 :: wordF x.1 ++ tailW (withI xs) := fun x xs => rfl
        rw [e]
        simp only [List.length_append, List.length_cons]
        omega
theorem joinW_tail (l : List (Wd × Int)) : (joinW l).length ≤ (tailW l).length := by
  cases l with
  | nil => simp [joinW]
  | cons x l => simp [joinW, tailW]
/-- The words of a text, told, are no text that is too long. -/
theorem told_room (l : List UInt8) (h : l.length ≤ 5000) : (joinW (withI (lexAt l 0).1)).length ≤ 1048576 := by
  have h1 := joinW_tail (withI (lexAt l 0).1)
  have h2 := lexAt_told _ l (Nat.le_refl _) 0
  omega
end Go.Proofs.YtdodkbpagbblmaaDoor
end
section
namespace Go.Proofs.YtdodkbpagbblmaaDoor
open Go Go.RowKit

/-! ### words that are read, told, and read again -/
theorem may_num (x : Wd) (h : mayB x = true) : 0 ≤ x.num ∧ x.num ≤ 999999999 := by
  unfold mayB at h
  rw [Bool.and_eq_true] at h
  obtain ⟨h1, h2⟩ := h
  have h3 := congrArg Wd.num (sameW_is h2)
  unfold bareW at h3
  by_cases c4 : x.kind = 4
  · unfold okW at h1
    rw [if_neg (by omega), if_neg (by omega), if_neg (by omega), if_pos c4] at h1
    exact of_decide_eq_true h1
  · split at h3
    · simp only at h3; omega
    · split at h3
      · simp only at h3; omega
      · simp only at h3; omega
theorem sameL_fst : ∀ (l k : List (Wd × Int)), l.map (·.1) = k.map (·.1) → sameL l k = true := by
  intro l
  induction l with
  | nil => intro k h; cases k with | nil => rfl | cons y k => simp at h
  | cons x l ih =>
    intro k h
    cases k with
    | nil => simp at h
    | cons y k =>
      rw [List.map_cons, List.map_cons] at h
      obtain ⟨h1, h2⟩ := List.cons.inj h
      unfold sameL
      rw [ih k h2, h1, sameW_self]
      rfl
theorem tailW_fst (l : List (Wd × Int)) : tailW l = (l.map (·.1)).flatMap fun x => 32 :: wordF x := by
  unfold tailW
  rw [List.flatMap_map]
theorem joinW_fst (l k : List (Wd × Int)) (h : l.map (·.1) = k.map (·.1)) : joinW l = joinW k := by
  cases l with
  | nil => cases k with | nil => rfl | cons y k => simp at h
  | cons x l =>
    cases k with
    | nil => simp at h
    | cons y k =>
      rw [List.map_cons, List.map_cons] at h
      obtain ⟨h1, h2⟩ := List.cons.inj h
      show wordF x.1 ++ tailW l = wordF y.1 ++ tailW k
      rw [tailW_fst l, tailW_fst k, h2, h1]
theorem printR_fst (l k : List (Wd × Int)) (h : l.map (·.1) = k.map (·.1)) : printR l = printR k := by
  have e : ∀ l : List (Wd × Int), l.all (fun x => mayB x.1) = (l.map (·.1)).all mayB := fun l => by rw [List.all_map]; rfl
  unfold printR
  rw [joinW_fst l k h, e l, e k, h]
theorem withI_fst (ws : List (Wd × Nat)) : (withI ws).map (·.1) = ws.map (·.1) := by
  unfold withI
  rw [List.map_map]
  rfl
/-- What is bound of words that a call gets. -/
def SmallW (l : List (Wd × Int)) : Prop := ∀ x ∈ l, x.1.txt.size ≤ 1048576 ∧ -9223372036854775808 ≤ x.1.num ∧ x.1.num ≤ 9223372036854775807
theorem small_fst (l k : List (Wd × Int)) (h : l.map (·.1) = k.map (·.1)) (hl : SmallW l) : SmallW k := by
  intro x hx
  have h1 : x.1 ∈ l.map (·.1) := by rw [h]; exact List.mem_map.2 ⟨x, hx, rfl⟩
  obtain ⟨y, hy, e⟩ := List.mem_map.1 h1
  have := hl y hy
  rw [e] at this
  exact this
theorem word_tail (l : List (Wd × Int)) (x : Wd × Int) (hx : x ∈ l) : (wordF x.1).length ≤ (tailW l).length := by
  induction l with
  | nil => cases hx
  | cons y l ih =>
    have e : (tailW (y :: l)).length = (wordF y.1).length + 1 + (tailW l).length := by simp [tailW]; omega
    rw [e]
    rcases List.mem_cons.1 hx with rfl | hx
    · omega
    · have := ih hx; omega
theorem read_small (l : List UInt8) (hl : l.length ≤ 5000) : (∀ x ∈ withI (lexAt l 0).1, mayB x.1 = true) ∧ SmallW (withI (lexAt l 0).1) := by
  have h1 : ∀ x ∈ withI (lexAt l 0).1, mayB x.1 = true := by
    intro x hx
    unfold withI at hx
    obtain ⟨p, hp, rfl⟩ := List.mem_map.1 hx
    exact lexAt_may _ l (Nat.le_refl _) 0 p hp
  refine ⟨h1, fun x hx => ?_⟩
  have h2 := lexAt_told _ l (Nat.le_refl _) 0
  have h3 := word_tail _ x hx
  have h4 := wordF_long x.1 (h1 x hx)
  have h5 := may_num x.1 (h1 x hx)
  refine ⟨by omega, by omega, by omega⟩
theorem printR_may (l : List (Wd × Int)) (h : ∀ x ∈ l, mayB x.1 = true) (hj : (joinW l).length ≤ 1048576) : printR l = (bytesStr (joinW l), 0) := by
  unfold printR
  rw [if_pos (List.all_eq_true.2 h), if_neg (by omega)]
/-- What Print says, in cases. -/
theorem printR_cases (l : List (Wd × Int)) : (printR l = (⟨#[]⟩, 2) ∨ printR l = (⟨#[]⟩, 3)) ∨ (printR l = (bytesStr (joinW l), 0) ∧ (∀ x ∈ l, mayB x.1 = true) ∧ (joinW l).length ≤ 1048576) := by
  unfold printR
  split
  · rename_i h
    split
    · exact .inl (.inr rfl)
    · rename_i h2
      exact .inr ⟨rfl, List.all_eq_true.1 h, by omega⟩
  · exact .inl (.inl rfl)
/-- Words told are read as they were. -/
theorem read_told (l : List (Wd × Int)) (h : ∀ x ∈ l, mayB x.1 = true) : ∃ ws, lexAt (bytesStr (joinW l)).data.toList 0 = (ws, none) ∧ ws.map (·.1) = l.map (·.1) := by
  rw [bytesStr_list]
  exact lexAt_joinW l h
end Go.Proofs.YtdodkbpagbblmaaDoor
end
section
namespace Go.Proofs.YtdodkbpagbblmaaDoor
open Go Go.RowKit

theorem print_of (l : List (Wd × Int)) (s : ByteArray) (er : Int) (hR : printR l = (s, er)) (n : Nat) (hn : l.length = n) (hn1 : n ≤ 1048576) (hs : SmallW l) (W : World) (b : Option Addr) (cb : Nat) (hG : GlobD W) (hr : RowW W b l) :
    Calls Tryd.prog 8 #[.slice b n cb] W fun e w' => e = .returned (.tuple #[.string s, .int .i64 er]) ∧ Below W.heap.size W w' := by
  subst hn
  have h := print_any b cb l W hG hr hn1 (fun x hx => by have := hs x hx; exact ⟨⟨by omega, .inr (by omega)⟩, this.2.1, this.2.2⟩)
  rw [hR] at h
  exact h
theorem same_of (l k : List (Wd × Int)) (n m : Nat) (hn : l.length = n) (hm : k.length = m) (hn1 : n ≤ 1048576) (hm1 : m ≤ 1048576) (hS : sameL l k = true) (W : World) (a b : Option Addr) (ca cb : Nat) (ha : RowW W a l) (hb : RowW W b k) :
    Calls Tryd.prog 12 #[.slice a n ca, .slice b m cb] W fun e w' => e = .returned (.bool true) ∧ Below W.heap.size W w' := by
  subst hn
  subst hm
  have h := same_any a b ca cb l k W ha hb hn1 hm1
  rw [hS] at h
  exact h
theorem fst_len {ws : List (Wd × Nat)} {l : List (Wd × Int)} (h : ws.map (·.1) = l.map (·.1)) : ws.length = l.length := by
  have := congrArg List.length h
  simpa using this
/-- Words told, read again. -/
theorem back_words (l : List (Wd × Int)) (h : ∀ x ∈ l, mayB x.1 = true) (hj : (joinW l).length ≤ 1048576) :
    ∃ (S : ByteArray) (ws : List (Wd × Nat)), printR l = (S, 0) ∧ S.size ≤ 1048576 ∧ lexAt S.data.toList 0 = (ws, none) ∧ ws.length = l.length ∧ sameL l (withI ws) = true := by
  obtain ⟨ws, h1, h2⟩ := read_told l h
  refine ⟨_, ws, printR_may l h hj, by rw [bytesStr_size]; exact hj, h1, fst_len h2, sameL_fst _ _ ?_⟩
  rw [withI_fst, h2]
/-- A text's words, told, read and told again. -/
theorem back_text (t : ByteArray) (ht : t.size ≤ 5000) (ws : List (Wd × Nat)) (h : lexAt t.data.toList 0 = (ws, none)) :
    ∃ (T : ByteArray) (ws3 : List (Wd × Nat)), ws.length ≤ 5000 ∧ ws3.length = ws.length ∧ T.size ≤ 1048576 ∧ lexAt T.data.toList 0 = (ws3, none) ∧ printR (withI ws) = (T, 0) ∧ printR (withI ws3) = (T, 0) ∧ sameL (withI ws) (withI ws3) = true ∧ SmallW (withI ws) ∧ SmallW (withI ws3) := by
  have hl : t.data.toList.length ≤ 5000 := by rw [← Lib.size_eq]; exact ht
  have hb := (lexAt_bounds _ t.data.toList (Nat.le_refl _) 0).1
  have hr := read_small t.data.toList hl
  have ht := told_room t.data.toList hl
  rw [h] at hb hr ht
  obtain ⟨ws3, h1, h2⟩ := read_told (withI ws) hr.1
  have he : (withI ws).map (·.1) = (withI ws3).map (·.1) := by rw [withI_fst ws3, h2]
  have h3 := fst_len h2
  rw [withI_len] at h3
  have hp := printR_may (withI ws) hr.1 ht
  refine ⟨_, ws3, by simp only at hb; omega, h3, by rw [bytesStr_size]; exact ht, h1, hp, ?_, sameL_fst _ _ he, hr.2, small_fst _ _ he hr.2⟩
  rw [← printR_fst _ _ he]
  exact hp

set_option maxRecDepth 100000 in
set_option maxHeartbeats 4000000 in
theorem lawBack_big (a : Option Addr) (cap : Nat) (l : List (Wd × Int)) (t : ByteArray) (w : World) (hG : GlobD w) (h : 300 < l.length ∨ 5000 < t.size) :
    Calls Tryd.prog 4 #[.slice a l.length cap, .string t] w fun e w' => e = .returned (.bool true) ∧ Below w.heap.size w w' := by
  have HW := Lib.hid (works_any w hG)
  clear hG
  by_cases h1 : 300 < l.length
  · have n1 : (300 : Int) < (l.length : Int) := by omega
    clear h
    go_enter Tryd.func4, Tryd.ntmps4
    go_wp2_with (go_at_call 11; refine HW.out.mono ?_; rintro e w1 ⟨rfl, hB⟩)
    go_ret
    exact ⟨rfl, hB⟩
  · have h2 : 5000 < t.size := h.resolve_left h1
    have n1 : ¬ (300 : Int) < (l.length : Int) := by omega
    have n2 : (5000 : Int) < (t.size : Int) := by omega
    clear h
    go_enter Tryd.func4, Tryd.ntmps4
    go_wp2_with (go_at_call 11; refine HW.out.mono ?_; rintro e w1 ⟨rfl, hB⟩)
    go_ret
    exact ⟨rfl, hB⟩

set_option maxRecDepth 100000 in
set_option maxHeartbeats 4000000 in
theorem lawBack_long (a : Option Addr) (cap : Nat) (l : List (Wd × Int)) (t : ByteArray) (w : World) (hG : GlobD w) (hl : RowW w a l) (hn : l.length ≤ 300) (ht : t.size ≤ 5000) (hx : ∃ x ∈ l, 5000 < x.1.txt.size) :
    Calls Tryd.prog 4 #[.slice a l.length cap, .string t] w fun e w' => e = .returned (.bool true) ∧ Below w.heap.size w w' := by
  have HW := Lib.hid (fun W hW => works_any W hW)
  have HG := Lib.hid hG
  have HD := Lib.hid hl
  have HX := Lib.hid hx
  obtain ⟨n, hnn⟩ : ∃ n, n = l.length := ⟨_, rfl⟩
  have HN : Hid (l.length = n) := hnn.symm
  rw [← hnn] at hn ⊢
  have n1 : ¬ (300 : Int) < (n : Int) := by omega
  have n2 : ¬ (5000 : Int) < (t.size : Int) := by omega
  clear hG hl hx hnn
  go_enter Tryd.func4, Tryd.ntmps4
  go_wp2
  go_loopw [5] (fun i wr => ∃ m : Nat, i = .int .i64 m ∧ m ≤ n ∧ Hid (∀ x ∈ l.take m, x.1.txt.size ≤ 5000) ∧ Hid (Below w.heap.size w wr))
    (fun i _ => n - (intOf i).toNat)
  case atStart => exact ⟨0, rfl, Nat.zero_le _, Lib.hid (by simp), Below.refl _ _⟩
  case round =>
    obtain ⟨m, rfl, hm, hA, hB⟩ := hrel
    have hszr := hB.out.size
    by_cases hlt : m < n
    · have n3 : (m : Int) < (n : Int) := by omega
      have HXm : Hid (l[m]? = some (l[m]'(by rw [HN.out]; exact hlt))) := Lib.hid (List.getElem?_eq_getElem _)
      obtain ⟨x, hxe⟩ : ∃ x, l[m]'(by rw [HN.out]; exact hlt) = x := ⟨_, rfl⟩
      rw [hxe] at HXm
      clear hxe
      have HTk : Hid (l.take (m + 1) = l.take m ++ [x]) := Lib.hid (by rw [List.take_add_one, HXm.out]; rfl)
      by_cases hbig : 5000 < x.1.txt.size
      · obtain ⟨x, ax⟩ := x
        obtain ⟨g, off, rfl, hW⟩ := HD.out m _ HXm.out
        have hW := hW.below hB.out hW.lt
        have bg := hW.lt
        obtain ⟨c0, c1, c2, c3, c4, c5, c6, c7⟩ := hW
        dsimp only at c0 c1 c2 c3 c4 c5 c6 c7 hbig
        have n4 : (5000 : Int) < (x.txt.size : Int) := by omega
        clear HTk hA
        go_wp2_with (go_at_call 11; refine (HW.out _ (HG.out.below (Nat.le_refl _) hB.out)).mono ?_; rintro e w4 ⟨rfl, hB4⟩)
        go_ret
        exact ⟨rfl, hB.out.trans (hB4.mono hszr)⟩
      · have HA2 : Hid (∀ y ∈ l.take (m + 1), y.1.txt.size ≤ 5000) := by
          refine Lib.hid ?_
          rw [HTk.out]
          intro y hy
          rw [List.mem_append] at hy
          rcases hy with hy | hy
          · exact hA.out y hy
          · rw [List.mem_singleton] at hy; rw [hy]; omega
        obtain ⟨x, ax⟩ := x
        obtain ⟨g, off, rfl, hW⟩ := HD.out m _ HXm.out
        have hW := hW.below hB.out hW.lt
        have bg := hW.lt
        obtain ⟨c0, c1, c2, c3, c4, c5, c6, c7⟩ := hW
        dsimp only at c0 c1 c2 c3 c4 c5 c6 c7 hbig
        have n4 : ¬ (5000 : Int) < (x.txt.size : Int) := by omega
        clear HTk hA
        go_wp2
        go_roundw
        case rel => exact ⟨m + 1, by go_num, by omega, HA2, hB⟩
        case measure => simp [intOf]; omega
    · exfalso
      obtain rfl : m = n := by omega
      obtain ⟨x, hx, hbig⟩ := HX.out
      have := hA.out x (by rw [List.take_of_length_le (by rw [HN.out]; exact Nat.le_refl _)]; exact hx)
      omega

set_option maxRecDepth 100000 in
set_option maxHeartbeats 16000000 in
theorem lawBack_bad_bad (a : Option Addr) (cap : Nat) (l : List (Wd × Int)) (t : ByteArray) (w : World) (hG : GlobD w) (hl : RowW w a l) (hs : SmallW l) (hn : l.length ≤ 300) (ht : t.size ≤ 5000) (hx : ∀ x ∈ l, x.1.txt.size ≤ 5000)
    (er : Int) (her : er ≠ 0) (hp : printR l = (⟨#[]⟩, er)) (q : Nat) (hq : (lexAt t.data.toList 0).2 = some q) :
    Calls Tryd.prog 4 #[.slice a l.length cap, .string t] w fun e w' => e = .returned (.bool true) ∧ Below w.heap.size w w' := by
  have HW := Lib.hid (fun W hW => works_any W hW)
  have HG := Lib.hid hG
  have HD := Lib.hid hl
  have HX := Lib.hid hx
  have HT := Lib.hid (fun W hW => lex_bad t q hq (by omega) W hW)
  obtain ⟨n, hnn⟩ : ∃ n, n = l.length := ⟨_, rfl⟩
  have HN : Hid (l.length = n) := hnn.symm
  have HP := Lib.hid (print_of l ⟨#[]⟩ er hp n hnn.symm (by omega) hs)
  have he0 : (er == (0 : Int)) = false := by rw [beq_eq_false_iff_ne]; exact her
  rw [← hnn] at hn ⊢
  have n1 : ¬ (300 : Int) < (n : Int) := by omega
  have n2 : ¬ (5000 : Int) < (t.size : Int) := by omega
  clear hG hl hx hnn hs her hp hq
  go_enter Tryd.func4, Tryd.ntmps4
  go_wp2
  go_loopw [5] (fun i wr => ∃ m : Nat, i = .int .i64 m ∧ m ≤ n ∧ Hid (Below w.heap.size w wr))
    (fun i _ => n - (intOf i).toNat)
  case atStart => exact ⟨0, rfl, Nat.zero_le _, Below.refl _ _⟩
  case round =>
    obtain ⟨m, rfl, hm, hB⟩ := hrel
    have hszr := hB.out.size
    by_cases hlt : m < n
    · have n3 : (m : Int) < (n : Int) := by omega
      have HXm : Hid (l[m]? = some (l[m]'(by rw [HN.out]; exact hlt))) := Lib.hid (List.getElem?_eq_getElem _)
      obtain ⟨x, hxe⟩ : ∃ x, l[m]'(by rw [HN.out]; exact hlt) = x := ⟨_, rfl⟩
      rw [hxe] at HXm
      clear hxe
      have hxs := HX.out x (List.mem_of_getElem? HXm.out)
      obtain ⟨x, ax⟩ := x
      obtain ⟨g, off, rfl, hW⟩ := HD.out m _ HXm.out
      have hW := hW.below hB.out hW.lt
      have bg := hW.lt
      obtain ⟨c0, c1, c2, c3, c4, c5, c6, c7⟩ := hW
      dsimp only at c0 c1 c2 c3 c4 c5 c6 c7
      dsimp only at hxs
      have n4 : ¬ (5000 : Int) < (x.txt.size : Int) := by omega
      go_wp2
      go_roundw
      case rel => exact ⟨m + 1, by go_num, by omega, hB⟩
      case measure => simp [intOf]; omega
    · obtain rfl : m = n := by omega
      have HD0 := Lib.hid (HD.out.below hB.out)
      have HG0 := Lib.hid (HG.out.below (Nat.le_refl _) hB.out)
      have HB0 := hB
      clear hB HD HG hszr
      go_wp2_with fail
      refine (HP.out wr a cap HG0.out HD0.out).mono ?_
      rintro e w1 ⟨rfl, hB1⟩
      have HD1 := Lib.hid (HD0.out.below hB1)
      have HG1 := Lib.hid (HG0.out.below (Nat.le_refl _) hB1)
      have HB1 := Lib.hid (HB0.out.trans (hB1.mono HB0.out.size))
      clear hB1 HD0 HG0 HB0 HP
      have HG3 := HG1
      have HB3 := HB1
      clear HG1 HB1 HD1
      go_wp2_with (go_at_call 10; refine (num_any _ _).mono ?_; rintro e w' ⟨rfl, rfl⟩)
      refine (HT.out _ HG3.out).mono ?_
      rintro e w4 ⟨rfl, hB4⟩
      have HG4 := Lib.hid (HG3.out.below (Nat.le_refl _) hB4)
      have HB4 := Lib.hid (HB3.out.trans (hB4.mono HB3.out.size))
      clear hB4
      go_wp2_with (first
        | (go_at_call 10; refine (num_any _ _).mono ?_; rintro e w' ⟨rfl, rfl⟩)
        | (go_at_call 11; refine (HW.out _ HG4.out).mono ?_; rintro e w5 ⟨rfl, hB5⟩))
      go_ret
      exact ⟨rfl, HB4.out.trans (hB5.mono HB4.out.size)⟩

set_option maxRecDepth 100000 in
set_option maxHeartbeats 16000000 in
theorem lawBack_bad_ok (a : Option Addr) (cap : Nat) (l : List (Wd × Int)) (t : ByteArray) (w : World) (hG : GlobD w) (hl : RowW w a l) (hs : SmallW l) (hn : l.length ≤ 300) (ht : t.size ≤ 5000) (hx : ∀ x ∈ l, x.1.txt.size ≤ 5000)
    (er : Int) (her : er ≠ 0) (hp : printR l = (⟨#[]⟩, er)) (ws2 : List (Wd × Nat)) (hq : lexAt t.data.toList 0 = (ws2, none)) :
    Calls Tryd.prog 4 #[.slice a l.length cap, .string t] w fun e w' => e = .returned (.bool true) ∧ Below w.heap.size w w' := by
  have HW := Lib.hid (fun W hW => works_any W hW)
  have HG := Lib.hid hG
  have HD := Lib.hid hl
  have HX := Lib.hid hx
  obtain ⟨T, ws3, b1, b2, b3, b4, b5, b6, b7, b8, b9⟩ := back_text t ht ws2 hq
  obtain ⟨n2', hn2'⟩ : ∃ n, n = ws2.length := ⟨_, rfl⟩
  rw [← hn2'] at b1 b2
  have HN2 : Hid (ws2.length = n2') := hn2'.symm
  have HN3 : Hid (ws3.length = n2') := b2
  have HT := Lib.hid (fun W hW => lex_ok t ws2 hq (by omega) W hW)
  have HT2 := Lib.hid (fun W hW => lex_ok T ws3 b4 b3 W hW)
  have HP2 := Lib.hid (print_of (withI ws2) T 0 b5 n2' (by rw [withI_len]; exact hn2'.symm) (by omega) b8)
  have HP3 := Lib.hid (print_of (withI ws3) T 0 b6 n2' (by rw [withI_len]; exact b2) (by omega) b9)
  have HS2 := Lib.hid (same_of (withI ws2) (withI ws3) n2' n2' (by rw [withI_len]; exact hn2'.symm) (by rw [withI_len]; exact b2) (by omega) (by omega) b7)
  have hTT : (T.toList == T.toList) = true := by simp
  obtain ⟨n, hnn⟩ : ∃ n, n = l.length := ⟨_, rfl⟩
  have HN : Hid (l.length = n) := hnn.symm
  have HP := Lib.hid (print_of l ⟨#[]⟩ er hp n hnn.symm (by omega) hs)
  have he0 : (er == (0 : Int)) = false := by rw [beq_eq_false_iff_ne]; exact her
  rw [← hnn] at hn ⊢
  have n1 : ¬ (300 : Int) < (n : Int) := by omega
  have n2 : ¬ (5000 : Int) < (t.size : Int) := by omega
  clear hG hl hx hnn hs her hp hq b1 b2 b3 b4 b5 b6 b7 b8 b9 hn2'
  go_enter Tryd.func4, Tryd.ntmps4
  go_wp2
  go_loopw [5] (fun i wr => ∃ m : Nat, i = .int .i64 m ∧ m ≤ n ∧ Hid (Below w.heap.size w wr))
    (fun i _ => n - (intOf i).toNat)
  case atStart => exact ⟨0, rfl, Nat.zero_le _, Below.refl _ _⟩
  case round =>
    obtain ⟨m, rfl, hm, hB⟩ := hrel
    have hszr := hB.out.size
    by_cases hlt : m < n
    · have n3 : (m : Int) < (n : Int) := by omega
      have HXm : Hid (l[m]? = some (l[m]'(by rw [HN.out]; exact hlt))) := Lib.hid (List.getElem?_eq_getElem _)
      obtain ⟨x, hxe⟩ : ∃ x, l[m]'(by rw [HN.out]; exact hlt) = x := ⟨_, rfl⟩
      rw [hxe] at HXm
      clear hxe
      have hxs := HX.out x (List.mem_of_getElem? HXm.out)
      obtain ⟨x, ax⟩ := x
      obtain ⟨g, off, rfl, hW⟩ := HD.out m _ HXm.out
      have hW := hW.below hB.out hW.lt
      have bg := hW.lt
      obtain ⟨c0, c1, c2, c3, c4, c5, c6, c7⟩ := hW
      dsimp only at c0 c1 c2 c3 c4 c5 c6 c7
      dsimp only at hxs
      have n4 : ¬ (5000 : Int) < (x.txt.size : Int) := by omega
      go_wp2
      go_roundw
      case rel => exact ⟨m + 1, by go_num, by omega, hB⟩
      case measure => simp [intOf]; omega
    · obtain rfl : m = n := by omega
      have HD0 := Lib.hid (HD.out.below hB.out)
      have HG0 := Lib.hid (HG.out.below (Nat.le_refl _) hB.out)
      have HB0 := hB
      clear hB HD HG hszr
      go_wp2_with fail
      refine (HP.out wr a cap HG0.out HD0.out).mono ?_
      rintro e w1 ⟨rfl, hB1⟩
      have HD1 := Lib.hid (HD0.out.below hB1)
      have HG1 := Lib.hid (HG0.out.below (Nat.le_refl _) hB1)
      have HB1 := Lib.hid (HB0.out.trans (hB1.mono HB0.out.size))
      clear hB1 HD0 HG0 HB0 HP
      have HG3 := HG1
      have HB3 := HB1
      clear HG1 HB1 HD1
      go_wp2_with (go_at_call 10; refine (num_any _ _).mono ?_; rintro e w' ⟨rfl, rfl⟩)
      refine (HT.out _ HG3.out).mono ?_
      rintro e w4 ⟨v4, rfl, ho4, hB4⟩
      obtain ⟨s4, c4, rfl, hr4⟩ := own_rowWn ho4 HN2.out
      have HR4 := Lib.hid hr4
      have HG4 := Lib.hid (HG3.out.below (Nat.le_refl _) hB4)
      have HB4 := Lib.hid (HB3.out.trans (hB4.mono HB3.out.size))
      clear hB4 ho4 hr4 HG3 HB3 HT
      go_wp2_with (go_at_call 10; refine (num_any _ _).mono ?_; rintro e w' ⟨rfl, rfl⟩)
      refine (HP2.out _ s4 c4 HG4.out HR4.out).mono ?_
      rintro e w5 ⟨rfl, hB5⟩
      have HR5 := Lib.hid (HR4.out.below hB5)
      have HG5 := Lib.hid (HG4.out.below (Nat.le_refl _) hB5)
      have HB5 := Lib.hid (HB4.out.trans (hB5.mono HB4.out.size))
      clear hB5 HR4 HG4 HB4 HP2
      go_wp2_with fail
      refine (HT2.out _ HG5.out).mono ?_
      rintro e w6 ⟨v6, rfl, ho6, hB6⟩
      obtain ⟨s6, c6, rfl, hr6⟩ := own_rowWn ho6 HN3.out
      have HR6 := Lib.hid (HR5.out.below hB6)
      have HQ6 := Lib.hid hr6
      have HG6 := Lib.hid (HG5.out.below (Nat.le_refl _) hB6)
      have HB6 := Lib.hid (HB5.out.trans (hB6.mono HB5.out.size))
      clear hB6 ho6 hr6 HR5 HG5 HB5 HT2
      go_wp2_with fail
      refine (HP3.out _ s6 c6 HG6.out HQ6.out).mono ?_
      rintro e w7 ⟨rfl, hB7⟩
      have HR7 := Lib.hid (HR6.out.below hB7)
      have HQ7 := Lib.hid (HQ6.out.below hB7)
      have HG7 := Lib.hid (HG6.out.below (Nat.le_refl _) hB7)
      have HB7 := Lib.hid (HB6.out.trans (hB7.mono HB6.out.size))
      clear hB7 HR6 HQ6 HG6 HB6 HP3
      go_wp2_with (first
        | (go_at_call 10; refine (num_any _ _).mono ?_; rintro e w' ⟨rfl, rfl⟩)
        | (go_at_call 12; refine (HS2.out _ s4 s6 c4 c6 HR7.out HQ7.out).mono ?_; rintro e w8 ⟨rfl, hB8⟩; have HG8 := Lib.hid (HG7.out.below (Nat.le_refl _) hB8); have HB8 := Lib.hid (HB7.out.trans (hB8.mono HB7.out.size)); clear hB8)
        | (go_at_call 11; refine (HW.out _ HG8.out).mono ?_; rintro e w9 ⟨rfl, hB9⟩))
      go_ret
      exact ⟨rfl, HB8.out.trans (hB9.mono HB8.out.size)⟩

set_option maxRecDepth 100000 in
set_option maxHeartbeats 16000000 in
theorem lawBack_ok_bad (a : Option Addr) (cap : Nat) (l : List (Wd × Int)) (t : ByteArray) (w : World) (hG : GlobD w) (hl : RowW w a l) (hs : SmallW l) (hn : l.length ≤ 300) (ht : t.size ≤ 5000) (hx : ∀ x ∈ l, x.1.txt.size ≤ 5000)
    (hp : ∀ x ∈ l, mayB x.1 = true) (hj : (joinW l).length ≤ 1048576) (q : Nat) (hq : (lexAt t.data.toList 0).2 = some q) :
    Calls Tryd.prog 4 #[.slice a l.length cap, .string t] w fun e w' => e = .returned (.bool true) ∧ Below w.heap.size w w' := by
  have HW := Lib.hid (fun W hW => works_any W hW)
  have HG := Lib.hid hG
  have HD := Lib.hid hl
  have HX := Lib.hid hx
  obtain ⟨S, ws, d1, d2, d3, d4, d5⟩ := back_words l hp hj
  have HT := Lib.hid (fun W hW => lex_bad t q hq (by omega) W hW)
  obtain ⟨n, hnn⟩ : ∃ n, n = l.length := ⟨_, rfl⟩
  have HN : Hid (l.length = n) := hnn.symm
  have HP := Lib.hid (print_of l S 0 d1 n hnn.symm (by omega) hs)
  have HL := Lib.hid (fun W hW => lex_ok S ws d3 d2 W hW)
  have HL2 : Hid (ws.length = n) := Lib.hid (d4.trans hnn.symm)
  have HS := Lib.hid (same_of l (withI ws) n n hnn.symm (by rw [withI_len]; exact HL2.out) (by omega) (by omega) d5)
  rw [← hnn] at hn ⊢
  have n1 : ¬ (300 : Int) < (n : Int) := by omega
  have n2 : ¬ (5000 : Int) < (t.size : Int) := by omega
  clear hG hl hx hnn hs d1 d2 d3 d4 d5 hj hp hq
  go_enter Tryd.func4, Tryd.ntmps4
  go_wp2
  go_loopw [5] (fun i wr => ∃ m : Nat, i = .int .i64 m ∧ m ≤ n ∧ Hid (Below w.heap.size w wr))
    (fun i _ => n - (intOf i).toNat)
  case atStart => exact ⟨0, rfl, Nat.zero_le _, Below.refl _ _⟩
  case round =>
    obtain ⟨m, rfl, hm, hB⟩ := hrel
    have hszr := hB.out.size
    by_cases hlt : m < n
    · have n3 : (m : Int) < (n : Int) := by omega
      have HXm : Hid (l[m]? = some (l[m]'(by rw [HN.out]; exact hlt))) := Lib.hid (List.getElem?_eq_getElem _)
      obtain ⟨x, hxe⟩ : ∃ x, l[m]'(by rw [HN.out]; exact hlt) = x := ⟨_, rfl⟩
      rw [hxe] at HXm
      clear hxe
      have hxs := HX.out x (List.mem_of_getElem? HXm.out)
      obtain ⟨x, ax⟩ := x
      obtain ⟨g, off, rfl, hW⟩ := HD.out m _ HXm.out
      have hW := hW.below hB.out hW.lt
      have bg := hW.lt
      obtain ⟨c0, c1, c2, c3, c4, c5, c6, c7⟩ := hW
      dsimp only at c0 c1 c2 c3 c4 c5 c6 c7
      dsimp only at hxs
      have n4 : ¬ (5000 : Int) < (x.txt.size : Int) := by omega
      go_wp2
      go_roundw
      case rel => exact ⟨m + 1, by go_num, by omega, hB⟩
      case measure => simp [intOf]; omega
    · obtain rfl : m = n := by omega
      have HD0 := Lib.hid (HD.out.below hB.out)
      have HG0 := Lib.hid (HG.out.below (Nat.le_refl _) hB.out)
      have HB0 := hB
      clear hB HD HG hszr
      go_wp2_with fail
      refine (HP.out wr a cap HG0.out HD0.out).mono ?_
      rintro e w1 ⟨rfl, hB1⟩
      have HD1 := Lib.hid (HD0.out.below hB1)
      have HG1 := Lib.hid (HG0.out.below (Nat.le_refl _) hB1)
      have HB1 := Lib.hid (HB0.out.trans (hB1.mono HB0.out.size))
      clear hB1 HD0 HG0 HB0 HP
      go_wp2_with (go_at_call 10; refine (num_any _ _).mono ?_; rintro e w' ⟨rfl, rfl⟩)
      refine (HL.out _ HG1.out).mono ?_
      rintro e w2 ⟨v2, rfl, ho2, hB2⟩
      obtain ⟨s2, c2, rfl, hr2⟩ := own_rowWn ho2 HL2.out
      have HR2 := Lib.hid hr2
      have HD2 := Lib.hid (HD1.out.below hB2)
      have HG2 := Lib.hid (HG1.out.below (Nat.le_refl _) hB2)
      have HB2 := Lib.hid (HB1.out.trans (hB2.mono HB1.out.size))
      clear hB2 ho2 hr2 HD1 HG1 HB1 HL
      go_wp2_with (first
        | (go_at_call 10; refine (num_any _ _).mono ?_; rintro e w' ⟨rfl, rfl⟩)
        | (go_at_call 12; refine (HS.out _ a s2 cap c2 HD2.out HR2.out).mono ?_; rintro e w3 ⟨rfl, hB3⟩; have HG3 := Lib.hid (HG2.out.below (Nat.le_refl _) hB3); have HB3 := Lib.hid (HB2.out.trans (hB3.mono HB2.out.size)); clear hB3)
        | fail)
      clear HG2 HB2 HD2 HR2 HS
      refine (HT.out _ HG3.out).mono ?_
      rintro e w4 ⟨rfl, hB4⟩
      have HG4 := Lib.hid (HG3.out.below (Nat.le_refl _) hB4)
      have HB4 := Lib.hid (HB3.out.trans (hB4.mono HB3.out.size))
      clear hB4
      go_wp2_with (first
        | (go_at_call 10; refine (num_any _ _).mono ?_; rintro e w' ⟨rfl, rfl⟩)
        | (go_at_call 11; refine (HW.out _ HG4.out).mono ?_; rintro e w5 ⟨rfl, hB5⟩))
      go_ret
      exact ⟨rfl, HB4.out.trans (hB5.mono HB4.out.size)⟩

set_option maxRecDepth 100000 in
set_option maxHeartbeats 16000000 in
theorem lawBack_ok_ok (a : Option Addr) (cap : Nat) (l : List (Wd × Int)) (t : ByteArray) (w : World) (hG : GlobD w) (hl : RowW w a l) (hs : SmallW l) (hn : l.length ≤ 300) (ht : t.size ≤ 5000) (hx : ∀ x ∈ l, x.1.txt.size ≤ 5000)
    (hp : ∀ x ∈ l, mayB x.1 = true) (hj : (joinW l).length ≤ 1048576) (ws2 : List (Wd × Nat)) (hq : lexAt t.data.toList 0 = (ws2, none)) :
    Calls Tryd.prog 4 #[.slice a l.length cap, .string t] w fun e w' => e = .returned (.bool true) ∧ Below w.heap.size w w' := by
  have HW := Lib.hid (fun W hW => works_any W hW)
  have HG := Lib.hid hG
  have HD := Lib.hid hl
  have HX := Lib.hid hx
  obtain ⟨S, ws, d1, d2, d3, d4, d5⟩ := back_words l hp hj
  obtain ⟨T, ws3, b1, b2, b3, b4, b5, b6, b7, b8, b9⟩ := back_text t ht ws2 hq
  obtain ⟨n2', hn2'⟩ : ∃ n, n = ws2.length := ⟨_, rfl⟩
  rw [← hn2'] at b1 b2
  have HN2 : Hid (ws2.length = n2') := hn2'.symm
  have HN3 : Hid (ws3.length = n2') := b2
  have HT := Lib.hid (fun W hW => lex_ok t ws2 hq (by omega) W hW)
  have HT2 := Lib.hid (fun W hW => lex_ok T ws3 b4 b3 W hW)
  have HP2 := Lib.hid (print_of (withI ws2) T 0 b5 n2' (by rw [withI_len]; exact hn2'.symm) (by omega) b8)
  have HP3 := Lib.hid (print_of (withI ws3) T 0 b6 n2' (by rw [withI_len]; exact b2) (by omega) b9)
  have HS2 := Lib.hid (same_of (withI ws2) (withI ws3) n2' n2' (by rw [withI_len]; exact hn2'.symm) (by rw [withI_len]; exact b2) (by omega) (by omega) b7)
  have hTT : (T.toList == T.toList) = true := by simp
  obtain ⟨n, hnn⟩ : ∃ n, n = l.length := ⟨_, rfl⟩
  have HN : Hid (l.length = n) := hnn.symm
  have HP := Lib.hid (print_of l S 0 d1 n hnn.symm (by omega) hs)
  have HL := Lib.hid (fun W hW => lex_ok S ws d3 d2 W hW)
  have HL2 : Hid (ws.length = n) := Lib.hid (d4.trans hnn.symm)
  have HS := Lib.hid (same_of l (withI ws) n n hnn.symm (by rw [withI_len]; exact HL2.out) (by omega) (by omega) d5)
  rw [← hnn] at hn ⊢
  have n1 : ¬ (300 : Int) < (n : Int) := by omega
  have n2 : ¬ (5000 : Int) < (t.size : Int) := by omega
  clear hG hl hx hnn hs d1 d2 d3 d4 d5 hj hp hq b1 b2 b3 b4 b5 b6 b7 b8 b9 hn2'
  go_enter Tryd.func4, Tryd.ntmps4
  go_wp2
  go_loopw [5] (fun i wr => ∃ m : Nat, i = .int .i64 m ∧ m ≤ n ∧ Hid (Below w.heap.size w wr))
    (fun i _ => n - (intOf i).toNat)
  case atStart => exact ⟨0, rfl, Nat.zero_le _, Below.refl _ _⟩
  case round =>
    obtain ⟨m, rfl, hm, hB⟩ := hrel
    have hszr := hB.out.size
    by_cases hlt : m < n
    · have n3 : (m : Int) < (n : Int) := by omega
      have HXm : Hid (l[m]? = some (l[m]'(by rw [HN.out]; exact hlt))) := Lib.hid (List.getElem?_eq_getElem _)
      obtain ⟨x, hxe⟩ : ∃ x, l[m]'(by rw [HN.out]; exact hlt) = x := ⟨_, rfl⟩
      rw [hxe] at HXm
      clear hxe
      have hxs := HX.out x (List.mem_of_getElem? HXm.out)
      obtain ⟨x, ax⟩ := x
      obtain ⟨g, off, rfl, hW⟩ := HD.out m _ HXm.out
      have hW := hW.below hB.out hW.lt
      have bg := hW.lt
      obtain ⟨c0, c1, c2, c3, c4, c5, c6, c7⟩ := hW
      dsimp only at c0 c1 c2 c3 c4 c5 c6 c7
      dsimp only at hxs
      have n4 : ¬ (5000 : Int) < (x.txt.size : Int) := by omega
      go_wp2
      go_roundw
      case rel => exact ⟨m + 1, by go_num, by omega, hB⟩
      case measure => simp [intOf]; omega
    · obtain rfl : m = n := by omega
      have HD0 := Lib.hid (HD.out.below hB.out)
      have HG0 := Lib.hid (HG.out.below (Nat.le_refl _) hB.out)
      have HB0 := hB
      clear hB HD HG hszr
      go_wp2_with fail
      refine (HP.out wr a cap HG0.out HD0.out).mono ?_
      rintro e w1 ⟨rfl, hB1⟩
      have HD1 := Lib.hid (HD0.out.below hB1)
      have HG1 := Lib.hid (HG0.out.below (Nat.le_refl _) hB1)
      have HB1 := Lib.hid (HB0.out.trans (hB1.mono HB0.out.size))
      clear hB1 HD0 HG0 HB0 HP
      go_wp2_with (go_at_call 10; refine (num_any _ _).mono ?_; rintro e w' ⟨rfl, rfl⟩)
      refine (HL.out _ HG1.out).mono ?_
      rintro e w2 ⟨v2, rfl, ho2, hB2⟩
      obtain ⟨s2, c2, rfl, hr2⟩ := own_rowWn ho2 HL2.out
      have HR2 := Lib.hid hr2
      have HD2 := Lib.hid (HD1.out.below hB2)
      have HG2 := Lib.hid (HG1.out.below (Nat.le_refl _) hB2)
      have HB2 := Lib.hid (HB1.out.trans (hB2.mono HB1.out.size))
      clear hB2 ho2 hr2 HD1 HG1 HB1 HL
      go_wp2_with (first
        | (go_at_call 10; refine (num_any _ _).mono ?_; rintro e w' ⟨rfl, rfl⟩)
        | (go_at_call 12; refine (HS.out _ a s2 cap c2 HD2.out HR2.out).mono ?_; rintro e w3 ⟨rfl, hB3⟩; have HG3 := Lib.hid (HG2.out.below (Nat.le_refl _) hB3); have HB3 := Lib.hid (HB2.out.trans (hB3.mono HB2.out.size)); clear hB3)
        | fail)
      clear HG2 HB2 HD2 HR2 HS
      refine (HT.out _ HG3.out).mono ?_
      rintro e w4 ⟨v4, rfl, ho4, hB4⟩
      obtain ⟨s4, c4, rfl, hr4⟩ := own_rowWn ho4 HN2.out
      have HR4 := Lib.hid hr4
      have HG4 := Lib.hid (HG3.out.below (Nat.le_refl _) hB4)
      have HB4 := Lib.hid (HB3.out.trans (hB4.mono HB3.out.size))
      clear hB4 ho4 hr4 HG3 HB3 HT
      go_wp2_with (go_at_call 10; refine (num_any _ _).mono ?_; rintro e w' ⟨rfl, rfl⟩)
      refine (HP2.out _ s4 c4 HG4.out HR4.out).mono ?_
      rintro e w5 ⟨rfl, hB5⟩
      have HR5 := Lib.hid (HR4.out.below hB5)
      have HG5 := Lib.hid (HG4.out.below (Nat.le_refl _) hB5)
      have HB5 := Lib.hid (HB4.out.trans (hB5.mono HB4.out.size))
      clear hB5 HR4 HG4 HB4 HP2
      go_wp2_with fail
      refine (HT2.out _ HG5.out).mono ?_
      rintro e w6 ⟨v6, rfl, ho6, hB6⟩
      obtain ⟨s6, c6, rfl, hr6⟩ := own_rowWn ho6 HN3.out
      have HR6 := Lib.hid (HR5.out.below hB6)
      have HQ6 := Lib.hid hr6
      have HG6 := Lib.hid (HG5.out.below (Nat.le_refl _) hB6)
      have HB6 := Lib.hid (HB5.out.trans (hB6.mono HB5.out.size))
      clear hB6 ho6 hr6 HR5 HG5 HB5 HT2
      go_wp2_with fail
      refine (HP3.out _ s6 c6 HG6.out HQ6.out).mono ?_
      rintro e w7 ⟨rfl, hB7⟩
      have HR7 := Lib.hid (HR6.out.below hB7)
      have HQ7 := Lib.hid (HQ6.out.below hB7)
      have HG7 := Lib.hid (HG6.out.below (Nat.le_refl _) hB7)
      have HB7 := Lib.hid (HB6.out.trans (hB7.mono HB6.out.size))
      clear hB7 HR6 HQ6 HG6 HB6 HP3
      go_wp2_with (first
        | (go_at_call 10; refine (num_any _ _).mono ?_; rintro e w' ⟨rfl, rfl⟩)
        | (go_at_call 12; refine (HS2.out _ s4 s6 c4 c6 HR7.out HQ7.out).mono ?_; rintro e w8 ⟨rfl, hB8⟩; have HG8 := Lib.hid (HG7.out.below (Nat.le_refl _) hB8); have HB8 := Lib.hid (HB7.out.trans (hB8.mono HB7.out.size)); clear hB8)
        | (go_at_call 11; refine (HW.out _ HG8.out).mono ?_; rintro e w9 ⟨rfl, hB9⟩))
      go_ret
      exact ⟨rfl, HB8.out.trans (hB9.mono HB8.out.size)⟩

/-- DeflexBack's law, at every input. -/
theorem lawBack (a : Option Addr) (cap : Nat) (l : List (Wd × Int)) (n : Nat) (hn : l.length = n) (t : ByteArray) (w : World) (hG : GlobD w) (hl : RowW w a l) (hf : ∀ y ∈ l, FitW y) :
    Calls Tryd.prog 4 #[.slice a n cap, .string t] w fun e w' => e = .returned (.bool true) ∧ Below w.heap.size w w' := by
  subst hn
  by_cases h1 : 300 < l.length
  · exact lawBack_big a cap l t w hG (.inl h1)
  by_cases h2 : 5000 < t.size
  · exact lawBack_big a cap l t w hG (.inr h2)
  by_cases h3 : ∃ x ∈ l, 5000 < x.1.txt.size
  · exact lawBack_long a cap l t w hG hl (by omega) (by omega) h3
  have h4 : ∀ x ∈ l, x.1.txt.size ≤ 5000 := fun x hx => Nat.le_of_not_lt fun h => h3 ⟨x, hx, h⟩
  have h5 : SmallW l := fun x hx => by
    have h6 := h4 x hx
    have h7 := hf x hx
    exact ⟨by omega, h7.2.1, h7.2.2.1⟩
  cases hq : (lexAt t.data.toList 0).2 with
  | some q =>
    rcases printR_cases l with hp | ⟨_, hp, hj⟩
    · rcases hp with hp | hp
      · exact lawBack_bad_bad a cap l t w hG hl h5 (by omega) (by omega) h4 2 (by decide) hp q hq
      · exact lawBack_bad_bad a cap l t w hG hl h5 (by omega) (by omega) h4 3 (by decide) hp q hq
    · exact lawBack_ok_bad a cap l t w hG hl h5 (by omega) (by omega) h4 hp hj q hq
  | none =>
    have hq2 : lexAt t.data.toList 0 = ((lexAt t.data.toList 0).1, none) := by rw [← hq]
    rcases printR_cases l with hp | ⟨_, hp, hj⟩
    · rcases hp with hp | hp
      · exact lawBack_bad_ok a cap l t w hG hl h5 (by omega) (by omega) h4 2 (by decide) hp _ hq2
      · exact lawBack_bad_ok a cap l t w hG hl h5 (by omega) (by omega) h4 3 (by decide) hp _ hq2
    · exact lawBack_ok_ok a cap l t w hG hl h5 (by omega) (by omega) h4 hp hj _ hq2
end Go.Proofs.YtdodkbpagbblmaaDoor
end
