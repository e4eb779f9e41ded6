import Derived.Laws.IdiomArrays
import Derived.OpenShut
import Derived.Deep.Slices
import Derived.ProofKit
import Derived.ChangeSame
import Derived.Deep.QuietTactic
import Derived.BigQuiet
import Derived.IntWalk
import Derived.Deep.RegionLaw
import Derived.Deep.RegionHeld3
import Derived.Deep.RegionWith
import Derived.Deep.AppendLies
import Derived.Deep.DeepCutAuto
import Derived.Laws.AppendOwnNone
import Derived.Test.YtdodkbpagbblmaaGreatDoorM3
import Derived.Test.YtdodkbpagbblmaaGreatDoorM4
import Derived.Test.YtdodkbpagbblmaaGreatDoorM6
import Derived.Test.YtdodkbpagbblmaaGreatDoorM7
section
namespace Go.Proofs.YtdodkbpagbblmaaGreatDoor
open Go.RowKit Go.Deep Go.ChangeShapes Go.WideShapes

theorem cellsOf3 : Tryz.prog.cellsOf 3 = 1 := by kernel_rfl
theorem cellsOf9 : Tryz.prog.cellsOf 9 = 1 := by kernel_rfl
theorem cellsOf33 : Tryz.prog.cellsOf 30 = 1 := by kernel_rfl
theorem cellsOf34 : Tryz.prog.cellsOf 31 = 1 := by kernel_rfl
theorem cellsOf36 : Tryz.prog.cellsOf 33 = 4 := by kernel_rfl
theorem cellsOf38 : Tryz.prog.cellsOf 35 = 8 := by kernel_rfl

theorem u64_rng {n : Int} (h : (Lit.int .u64 n).wf = true) : 0 ≤ n ∧ n < 18446744073709551616 := by
  have h0 : IntKind.u64.min = 0 := by decide
  have h1 : IntKind.u64.max = 18446744073709551615 := by decide
  simp [Lit.wf] at h
  omega
theorem i64_rng {n : Int} (h : (Lit.int .i64 n).wf = true) : -9223372036854775808 ≤ n ∧ n ≤ 9223372036854775807 := by
  have h0 : IntKind.i64.min = -9223372036854775808 := by decide
  have h1 : IntKind.i64.max = 9223372036854775807 := by decide
  simp [Lit.wf] at h
  omega
theorem mapM_at {α β : Type} (f : α → Option β) : ∀ (l : List α) (ys : List β), l.mapM f = some ys → ∀ (j : Nat) (x : α) (y : β), l[j]? = some x → ys[j]? = some y → f x = some y := by
  intro l
  induction l with
  | nil => intro ys h j x y hx; simp at hx
  | cons a l ih =>
    intro ys h j x y hx hy
    rw [List.mapM_cons] at h
    cases ha : f a with
    | none => rw [ha] at h; cases h
    | some b =>
      rw [ha] at h
      cases hl : l.mapM f with
      | none => rw [hl] at h; cases h
      | some bs =>
        rw [hl] at h
        cases h
        cases j with
        | zero => simp at hx hy; rw [← hx, ← hy]; exact ha
        | succ j => exact ih bs hl j x y (by simpa using hx) (by simpa using hy)
theorem add_off (b off j : Nat) : (⟨b, off, none⟩ : Addr).add j = ⟨b, off + j, none⟩ := by
  unfold Addr.add
  split
  · next h => rw [h]; rfl
  · rfl

variable {H : Type} {enc : TypeId × Value → H} {w : World} {base : Nat} {spare : Nat → Bool} {held : Bool}

theorem cells_ix {a : Addr} {n : Nat} {cs : List Value} (h : w.cells? base a n = some cs) (j : Nat) (v : Value) (hj : j < n) (hv : cs[j]? = some v) : w.cell? (a.add j) = some v := by
  unfold World.cells? at h
  split at h
  · exact mapM_at _ _ _ h j j v (by simp [hj]) hv
  · cases h
theorem open_u64 {fuel : Nat} {v : Value} {x : DataW H × List MemPlace} (h : DataW.trod enc Tryz.prog w base spare held fuel 31 [v] = some x) : ∃ n : Int, v = .int .u64 n ∧ 0 ≤ n ∧ n < 18446744073709551616 := by
  obtain ⟨n, e, _, hw⟩ := DataW.trod_int Tryz.underlying31 h
  simp at e
  exact ⟨n, e, u64_rng hw⟩
theorem open_i64 {fuel : Nat} {v : Value} {x : DataW H × List MemPlace} (h : DataW.trod enc Tryz.prog w base spare held fuel 3 [v] = some x) : ∃ n : Int, v = .int .i64 n ∧ -9223372036854775808 ≤ n ∧ n ≤ 9223372036854775807 := by
  obtain ⟨n, e, _, hw⟩ := DataW.trod_int Tryz.underlying3 h
  simp at e
  exact ⟨n, e, i64_rng hw⟩
theorem open_kind {fuel : Nat} {v : Value} {x : DataW H × List MemPlace} (h : DataW.trod enc Tryz.prog w base spare held fuel 30 [v] = some x) : ∃ n : Int, v = .int .i64 n := by
  obtain ⟨n, e, _, hw⟩ := DataW.trod_int Tryz.underlying30 h
  simp at e
  exact ⟨n, e⟩

set_option maxRecDepth 100000 in
/-- A set that reads as data. -/
theorem st_open {fuel : Nat} {cs : List Value} {x : DataW H × List MemPlace} (h : DataW.trod enc Tryz.prog w base spare held fuel 33 cs = some x) :
    ∃ s : BS, cs = [.int .u64 (wdI s 0), .int .u64 (wdI s 1), .int .u64 (wdI s 2), .int .u64 (wdI s 3)] := by
  obtain ⟨_, _, _, _, hl, _⟩ := DataW.trod_array Tryz.underlying33 h
  rw [cellsOf36] at hl
  match cs, hl with
  | [a, b, c, d], _ =>
    obtain ⟨_, _, _, _, n, _, h0, h1, h2, h3⟩ := trod_array4 Tryz.underlying33 cellsOf34 h
    obtain ⟨a, rfl, ra⟩ := open_u64 h0
    obtain ⟨b, rfl, rb⟩ := open_u64 h1
    obtain ⟨c, rfl, rc⟩ := open_u64 h2
    obtain ⟨d, rfl, rd⟩ := open_u64 h3
    obtain ⟨s, rfl, rfl, rfl, rfl⟩ := set_of_words a b c d ra rb rc rd
    exact ⟨s, rfl⟩

theorem trod_struct5 {P : Program} {t : TypeId} {f0 f1 f2 f3 f4 : Field} {fuel : Nat} {cs : List Value} {x : DataW H × List MemPlace} (ht : P.underlying t = some (.struct #[f0, f1, f2, f3, f4])) (h : DataW.trod enc P w base spare held fuel t cs = some x) :
    ∃ y0 y1 y2 y3 y4 n, cs.length = P.cellsOf t ∧ DataW.trod enc P w base spare held n f0.type ((cs.drop f0.offset).take (P.cellsOf f0.type)) = some y0 ∧
      DataW.trod enc P w base spare held n f1.type ((cs.drop f1.offset).take (P.cellsOf f1.type)) = some y1 ∧ DataW.trod enc P w base spare held n f2.type ((cs.drop f2.offset).take (P.cellsOf f2.type)) = some y2 ∧
      DataW.trod enc P w base spare held n f3.type ((cs.drop f3.offset).take (P.cellsOf f3.type)) = some y3 ∧ DataW.trod enc P w base spare held n f4.type ((cs.drop f4.offset).take (P.cellsOf f4.type)) = some y4 := by
  obtain ⟨xs, n, _, rfl, hl, hlen, hf⟩ := DataW.trod_struct ht h
  match xs, hlen with
  | [y0, y1, y2, y3, y4], _ => exact ⟨y0, y1, y2, y3, y4, n, hl, by simpa using hf 0 f0 rfl, by simpa using hf 1 f1 rfl, by simpa using hf 2 f2 rfl, by simpa using hf 3 f3 rfl, by simpa using hf 4 f4 rfl⟩

/-- What an argument's word is bound by. -/
def FitW (x : Wd × Int) : Prop := x.1.txt.size ≤ maxLen ∧ -9223372036854775808 ≤ x.1.num ∧ x.1.num ≤ 9223372036854775807 ∧ -9223372036854775808 ≤ x.2 ∧ x.2 ≤ 9223372036854775807

set_option maxRecDepth 100000 in
/-- A word that reads as data. -/
theorem wd_open {fuel : Nat} {cs : List Value} {x : DataW H × List MemPlace} (h : DataW.trod enc Tryz.prog w base spare held fuel 35 cs = some x) :
    ∃ y : Wd × Int, cs = (wordC y.1 y.2).toList ∧ FitW y := by
  obtain ⟨_, _, _, _, _, n, hl, h0, h1, h2, h3, h4⟩ := trod_struct5 Tryz.underlying35 h
  rw [cellsOf38] at hl
  match cs, hl with
  | [a, b, c, d0, d1, d2, d3, e], _ =>
    simp only [cellsOf3, cellsOf9, cellsOf33, cellsOf36, List.drop_zero, List.take_succ_cons, List.take_zero, List.drop_succ_cons] at h0 h1 h2 h3 h4
    obtain ⟨kd, rfl⟩ := open_kind h0
    obtain ⟨pl, rfl, p0, p1⟩ := open_i64 h1
    obtain ⟨s, e2, _, hs⟩ := DataW.trod_string Tryz.underlying9 h2
    simp at e2
    subst e2
    obtain ⟨st, hst⟩ := st_open h3
    simp at hst
    obtain ⟨rfl, rfl, rfl, rfl⟩ := hst
    obtain ⟨nm, rfl, q0, q1⟩ := open_i64 h4
    exact ⟨(⟨kd, s, st, nm⟩, pl), rfl, hs, q0, q1, p0, p1⟩

/-- A slice of words that reads as data. -/
theorem wds_open {fuel : Nat} {a : Option Addr} {len cap : Nat} {x : DataW H × List MemPlace} (h : DataW.trod enc Tryz.prog w base spare held fuel 23 [.slice a len cap] = some x) :
    ∃ d : List (Wd × Int), d.length = len ∧ RowW w a d ∧ (∀ y ∈ d, FitW y) ∧ len ≤ cap ∧ (a = none → cap = 0) := by
  rcases open_slice Tryz.underlying23 h with ⟨h0, _⟩ | ⟨a', len', cap', m, n, D, Pl, hcs, _, hl, hm, hmm, _, hel⟩
  · simp at h0
    obtain ⟨rfl, rfl, rfl⟩ := h0
    exact ⟨[], rfl, fun i x hx => by simp at hx, fun x hx => by simp at hx, Nat.le_refl _, fun _ => rfl⟩
  · simp at hcs
    obtain ⟨rfl, rfl, rfl⟩ := hcs
    have hlm : len ≤ m := by rw [hmm]; split <;> omega
    have hall : ∀ i, i < len → ∃ y : Wd × Int, (∀ j v, j < 8 → (wordC y.1 y.2).toList[j]? = some v → w.cell? ((a'.add (i * 8)).add j) = some v) ∧ FitW y := by
      intro i hi
      obtain ⟨cs', h1, h2⟩ := hel i (by omega)
      obtain ⟨y, rfl, hy⟩ := wd_open h2
      rw [cellsOf38] at h1
      exact ⟨y, fun j v hj hv => cells_ix h1 j v hj hv, hy⟩
    haveI : Inhabited (Wd × Int) := ⟨(⟨0, ⟨#[]⟩, 0#256, 0⟩, 0)⟩
    obtain ⟨f, hf⟩ := choose_lt hall
    have hget : ∀ i x, ((List.range len).map f)[i]? = some x → i < len ∧ f i = x := by
      intro i x hx
      have hi : i < len := by
        have := (List.getElem?_eq_some_iff.1 hx).1
        simpa using this
      rw [List.getElem?_map, List.getElem?_range hi] at hx
      exact ⟨hi, by simpa using hx⟩
    refine ⟨(List.range len).map f, by simp, ?_, ?_, hl, fun e => by cases e⟩
    · intro i x hx
      obtain ⟨hi, hx'⟩ := hget i x hx
      have q := (hf i hi).1
      rw [hx'] at q
      have hspot : a'.spot = none := by
        have h0 := (hf 0 (by omega)).1 0 _ (by omega) rfl
        have e0 : (a'.add (0 * 8)).add 0 = a' := rfl
        rw [e0] at h0
        exact World.cell?_spot h0
      obtain ⟨b, off, spot⟩ := a'
      simp only at hspot
      subst hspot
      have k : ∀ j v, j < 8 → (wordC x.1 x.2).toList[j]? = some v → w.cell? ⟨b, off + i * 8 + j, none⟩ = some v := fun j v hj hv => by
        have h := q j v hj hv
        rw [add_off, add_off] at h
        exact h
      exact ⟨b, off, rfl, k 0 _ (by omega) rfl, k 1 _ (by omega) rfl, k 2 _ (by omega) rfl, k 3 _ (by omega) rfl, k 4 _ (by omega) rfl, k 5 _ (by omega) rfl, k 6 _ (by omega) rfl, k 7 _ (by omega) rfl⟩
    · intro x hx
      obtain ⟨i, hi⟩ := List.mem_iff_getElem?.1 hx
      obtain ⟨hi', rfl⟩ := hget i x hi
      exact (hf i hi').2
end Go.Proofs.YtdodkbpagbblmaaGreatDoor
end
section
namespace Go.Proofs.YtdodkbpagbblmaaGreatDoor
open Go Go.RowKit

theorem and_twoPow (x : BitVec 64) (j : Nat) (h : x.getLsbD j = false) : x &&& BitVec.twoPow 64 j = 0#64 := by
  apply BitVec.eq_of_getLsbD_eq; intro i hi
  rw [BitVec.getLsbD_and, BitVec.getLsbD_twoPow]
  by_cases e : j = i
  · subst e; simp [h]
  · simp [e]

/-- A byte that is not in the set is put there by adding its bit. -/
theorem wdI_add (s : BS) (b i : Nat) (hb : b < 256) (h : b / 64 = i) (hs : s.getLsbD b = false) : IntKind.u64.wrap (wdI s i + IntKind.u64.wrap (2 ^ (b % 64))) = wdI (withB s b) i := by
  rw [two_pow_bv _ (by omega)]; unfold wdI
  rw [wd_with s b i hb, if_pos h.symm]
  have hz : wd s i &&& BitVec.twoPow 64 (b % 64) = 0#64 := and_twoPow _ _ (by
    rw [wd_bit]; subst h
    rw [show 64 * (b / 64) + b % 64 = b by omega, hs]; simp)
  rw [← BitVec.add_eq_or_of_and_eq_zero _ _ hz, BitVec.toNat_add, IntKind.wrap_u64]
  omega

theorem withB_has (s : BS) (b : Nat) (hb : b < 256) (h : s.getLsbD b = true) : withB s b = s := by
  apply BitVec.eq_of_getLsbD_eq; intro j hj
  rw [withB_bit _ _ _ hb]
  by_cases e : b = j
  · subst e; simp [h]
  · simp [e]

theorem bit2_I (s : BS) (b : Nat) (hb : b < 256) : (wdI s (b / 64) / 2 ^ (b % 64) % 2 == 1) = s.getLsbD b := by
  rw [← bit_I s b hb]
  have e : wdI s (b / 64) / 2 ^ (b % 64) = ((wd s (b / 64)).toNat / 2 ^ (b % 64) : Nat) := by
    unfold wdI; simp
  have hlt := (wd s (b / 64)).isLt
  have hl2 : (wd s (b / 64)).toNat / 2 ^ (b % 64) < 18446744073709551616 := Nat.lt_of_le_of_lt (Nat.div_le_self _ _) hlt
  rw [e]
  have e1 : (1 : Int) = ((1 : Nat) : Int) := rfl
  have h := bits_and_u64_nat _ 1 hl2 (by omega)
  rw [Nat.and_one_is_mod] at h
  rw [e1, h]
  generalize (wd s (b / 64)).toNat / 2 ^ (b % 64) = X
  have : X % 2 = 0 ∨ X % 2 = 1 := by omega
  rcases this with h | h
  · have : ((X : Int) % 2) = 0 := by omega
    simp [h, this]
  · have : ((X : Int) % 2) = 1 := by omega
    simp [h, this]

set_option maxHeartbeats 400000 in
theorem rhas_any (s : BS) (b : Nat) (hb : b < 256) (w : World) : Calls Tryz.prog 88 #[vset s, .int .i64 b] w fun e w' => e = .returned (.bool (s.getLsbD b)) ∧ Below w.heap.size w w' := by
  have hr := bit2_I s b hb
  rw [← hr]; clear hr
  unfold vset
  have hc := cells_at s (b / 64) (by omega)
  go_enter Tryz.func88, Tryz.ntmps88
  go_wp2
  go_ret
  exact ⟨rfl, (Below.refl _ _).alloc (Nat.le_refl _) _⟩

set_option maxRecDepth 100000 in
set_option maxHeartbeats 2000000 in
theorem rwith_old (s : BS) (b : Nat) (hb : b < 256) (hs : s.getLsbD b = true) (w : World) : Calls Tryz.prog 66 #[vset s, .int .i64 b] w fun e w' => e = .returned (vset s) ∧ Below w.heap.size w w' := by
  have HH := Lib.hid (fun w' => rhas_any s b hb w')
  rw [hs] at HH
  clear hs
  unfold vset at HH ⊢
  go_enter Tryz.func66, Tryz.ntmps66
  go_wp2_with fail
  refine (HH.out _).mono ?_
  rintro e w1 ⟨rfl, hB1⟩
  have hA := Lib.hid (((Blk.new w 33 (cset s)).alloc (.cells #[.int .u64 0, .int .u64 0, .int .u64 0, .int .u64 0] 33)).below hB1 (by simp; omega))
  have hZ0 := (Blk.new (w.alloc (.cells (cset s) 33)) 33 zcs).below hB1 (by simp)
  rw [World.size_alloc] at hZ0
  have hZ := Lib.hid hZ0
  have HB := Lib.hid ((((Below.refl _ w).alloc (Nat.le_refl _) (.cells (cset s) 33)).alloc (by simp) (.cells zcs 33)).trans (hB1.mono (by simp; omega)))
  clear hZ0 hB1 HH
  have c0 : w1.cell? ⟨w.heap.size, 0, none⟩ = some (.int .u64 (wdI s 0)) := hA.out.cell 0
  have c1 : w1.cell? ⟨w.heap.size, 1, none⟩ = some (.int .u64 (wdI s 1)) := hA.out.cell 1
  have c2 : w1.cell? ⟨w.heap.size, 2, none⟩ = some (.int .u64 (wdI s 2)) := hA.out.cell 2
  have c3 : w1.cell? ⟨w.heap.size, 3, none⟩ = some (.int .u64 (wdI s 3)) := hA.out.cell 3
  have z0 : w1.cell? ⟨w.heap.size + 1, 0, none⟩ = some (.int .u64 0) := hZ.out.cell 0
  have z1 : w1.cell? ⟨w.heap.size + 1, 1, none⟩ = some (.int .u64 0) := hZ.out.cell 1
  have z2 : w1.cell? ⟨w.heap.size + 1, 2, none⟩ = some (.int .u64 0) := hZ.out.cell 2
  have z3 : w1.cell? ⟨w.heap.size + 1, 3, none⟩ = some (.int .u64 0) := hZ.out.cell 3
  have fz : ∀ i, w1.frozen? ⟨w.heap.size + 1, i, none⟩ = false := hZ.out.frozen
  go_wp2
  have y := Blk.set4 hZ.out (.int .u64 (wdI s 0)) (.int .u64 (wdI s 1)) (.int .u64 (wdI s 2)) (.int .u64 (wdI s 3))
  have y0 := y.cell 0
  have y1 := y.cell 1
  have y2 := y.cell 2
  have y3 := y.cell 3
  refine bodyPost_ret (v := .agg #[.int .u64 (wdI s 0), .int .u64 (wdI s 1), .int .u64 (wdI s 2), .int .u64 (wdI s 3)]) (by simp [results, Tryz.results66, go_sem, y0, y1, y2, y3]) rfl ⟨rfl, ?_⟩
  exact below_set4 HB.out (by omega) _ _ _ _

theorem cset_put (s u : BS) (i : Nat) (hi : i < 4) (h : ∀ k, k < 4 → k ≠ i → wdI u k = wdI s k) : (cset s).setIfInBounds i (.int .u64 (wdI u i)) = cset u := by
  have : i = 0 ∨ i = 1 ∨ i = 2 ∨ i = 3 := by omega
  rcases this with rfl | rfl | rfl | rfl
  · have h1 := h 1 (by omega) (by omega); have h2 := h 2 (by omega) (by omega); have h3 := h 3 (by omega) (by omega)
    unfold cset; rw [h1, h2, h3]; rfl
  · have h1 := h 0 (by omega) (by omega); have h2 := h 2 (by omega) (by omega); have h3 := h 3 (by omega) (by omega)
    unfold cset; rw [h1, h2, h3]; rfl
  · have h1 := h 0 (by omega) (by omega); have h2 := h 1 (by omega) (by omega); have h3 := h 3 (by omega) (by omega)
    unfold cset; rw [h1, h2, h3]; rfl
  · have h1 := h 0 (by omega) (by omega); have h2 := h 1 (by omega) (by omega); have h3 := h 2 (by omega) (by omega)
    unfold cset; rw [h1, h2, h3]; rfl

set_option maxRecDepth 100000 in
set_option maxHeartbeats 2000000 in
theorem rwith_new (s : BS) (b : Nat) (hb : b < 256) (hs : s.getLsbD b = false) (w : World) : Calls Tryz.prog 66 #[vset s, .int .i64 b] w fun e w' => e = .returned (vset (withB s b)) ∧ Below w.heap.size w w' := by
  have HH := Lib.hid (fun w' => rhas_any s b hb w')
  have HI : Hid (IntKind.u64.wrap (wdI s (b / 64) + IntKind.u64.wrap (2 ^ (b % 64))) = wdI (withB s b) (b / 64)) := wdI_add s b _ hb rfl hs
  have HO : Hid (∀ i, i < 4 → i ≠ b / 64 → wdI (withB s b) i = wdI s i) := fun i _ h => wdI_with_other s b i hb (fun e => h e.symm)
  rw [hs] at HH
  clear hs
  obtain ⟨u, hu⟩ : ∃ u, u = withB s b := ⟨_, rfl⟩
  rw [← hu] at HI HO ⊢
  clear hu
  unfold vset at HH ⊢
  go_enter Tryz.func66, Tryz.ntmps66
  go_wp2_with fail
  refine (HH.out _).mono ?_
  rintro e w1 ⟨rfl, hB1⟩
  have hA := Lib.hid (((Blk.new w 33 (cset s)).alloc (.cells #[.int .u64 0, .int .u64 0, .int .u64 0, .int .u64 0] 33)).below hB1 (by simp; omega))
  have hZ0 := (Blk.new (w.alloc (.cells (cset s) 33)) 33 zcs).below hB1 (by simp)
  rw [World.size_alloc] at hZ0
  have hZ := Lib.hid hZ0
  have HB := Lib.hid ((((Below.refl _ w).alloc (Nat.le_refl _) (.cells (cset s) 33)).alloc (by simp) (.cells zcs 33)).trans (hB1.mono (by simp; omega)))
  clear hZ0 hB1 HH
  have hcat := cells_at s (b / 64) (by omega)
  have hcell : w1.cell? ⟨w.heap.size, b / 64, none⟩ = some (.int .u64 (wdI s (b / 64))) := by
    rw [hA.out.cell]; unfold cset; simpa using hcat
  have hfr := hA.out.frozen (b / 64)
  have hk := HI.out
  clear hcat
  go_wp2
  go_region
  have hA2 : Blk (w1.setCell ⟨w.heap.size, b / 64, none⟩ (.int .u64 (wdI u (b / 64)))).drew w.heap.size 33 (cset u) := by
    have h := hA.out.set (b / 64) (.int .u64 (wdI u (b / 64)))
    rw [cset_put s u (b / 64) (by omega) HO.out] at h
    exact h
  have hZ2 : Blk (w1.setCell ⟨w.heap.size, b / 64, none⟩ (.int .u64 (wdI u (b / 64)))).drew (w.heap.size + 1) 33 zcs := hZ.out.other (a := ⟨w.heap.size, b / 64, none⟩) (by simp) _
  have hB2 : Below w.heap.size w (w1.setCell ⟨w.heap.size, b / 64, none⟩ (.int .u64 (wdI u (b / 64)))).drew := (HB.out.setCell (p := ⟨w.heap.size, b / 64, none⟩) (Nat.le_refl _) _).drew
  obtain ⟨w2, hw2⟩ : ∃ w2, w2 = (w1.setCell ⟨w.heap.size, b / 64, none⟩ (.int .u64 (wdI u (b / 64)))).drew := ⟨_, rfl⟩
  rw [← hw2] at hA2 hZ2 hB2 ⊢
  have HA2 := Lib.hid hA2
  have HZ2 := Lib.hid hZ2
  have HB2 := Lib.hid hB2
  clear hw2 hcell hfr hk hA hZ HB HI HO hA2 hZ2 hB2
  have c0 : w2.cell? ⟨w.heap.size, 0, none⟩ = some (.int .u64 (wdI u 0)) := HA2.out.cell 0
  have c1 : w2.cell? ⟨w.heap.size, 1, none⟩ = some (.int .u64 (wdI u 1)) := HA2.out.cell 1
  have c2 : w2.cell? ⟨w.heap.size, 2, none⟩ = some (.int .u64 (wdI u 2)) := HA2.out.cell 2
  have c3 : w2.cell? ⟨w.heap.size, 3, none⟩ = some (.int .u64 (wdI u 3)) := HA2.out.cell 3
  have z0 : w2.cell? ⟨w.heap.size + 1, 0, none⟩ = some (.int .u64 0) := HZ2.out.cell 0
  have z1 : w2.cell? ⟨w.heap.size + 1, 1, none⟩ = some (.int .u64 0) := HZ2.out.cell 1
  have z2 : w2.cell? ⟨w.heap.size + 1, 2, none⟩ = some (.int .u64 0) := HZ2.out.cell 2
  have z3 : w2.cell? ⟨w.heap.size + 1, 3, none⟩ = some (.int .u64 0) := HZ2.out.cell 3
  have fz : ∀ i, w2.frozen? ⟨w.heap.size + 1, i, none⟩ = false := HZ2.out.frozen
  go_wp2
  have y := Blk.set4 HZ2.out (.int .u64 (wdI u 0)) (.int .u64 (wdI u 1)) (.int .u64 (wdI u 2)) (.int .u64 (wdI u 3))
  have y0 := y.cell 0
  have y1 := y.cell 1
  have y2 := y.cell 2
  have y3 := y.cell 3
  refine bodyPost_ret (v := .agg #[.int .u64 (wdI u 0), .int .u64 (wdI u 1), .int .u64 (wdI u 2), .int .u64 (wdI u 3)]) (by simp [results, Tryz.results66, go_sem, y0, y1, y2, y3]) rfl ⟨rfl, ?_⟩
  exact below_set4 HB2.out (by omega) _ _ _ _

theorem rwith_any (s : BS) (b : Nat) (hb : b < 256) (w : World) : Calls Tryz.prog 66 #[vset s, .int .i64 b] w fun e w' => e = .returned (vset (withB s b)) ∧ Below w.heap.size w w' := by
  cases h : s.getLsbD b with
  | true => rw [withB_has s b hb h]; exact rwith_old s b hb h w
  | false => exact rwith_new s b hb h w
end Go.Proofs.YtdodkbpagbblmaaGreatDoor
end
section
namespace Go.Proofs.YtdodkbpagbblmaaGreatDoor
open Go Go.RowKit

theorem conv_one (b : Nat) (g : Nat) (w : World) (hg : w.cell? ⟨g, 0, none⟩ = some (.int .u8 b)) : (convert 58 9 (.slice (some ⟨g, 0, none⟩) 1 1)).run Tryz.prog w = .ok (.string (bytesStr [b])) w := by
  refine run_convert_bytes_arg w 58 5 Tryz.underlying58 Tryz.underlying5 g 0 1 1 [(b : Int)] rfl ?_ 9 Tryz.underlying9
  intro i hi
  obtain rfl : i = 0 := by omega
  simpa using hg
set_option maxRecDepth 100000 in
set_option maxHeartbeats 4000000 in
theorem rone_any (b : Nat) (hb : b < 256) (w : World) : Calls Tryz.prog 75 #[.int .u8 b] w fun e w' => e = .returned (.string (bytesStr (byteT b))) ∧ Below w.heap.size w w' := by
  by_cases c1 : b = 9
  · subst c1
    go_enter Tryz.func75, Tryz.ntmps75
    go_wp2
    go_ret
    exact ⟨rfl, Below.refl _ _⟩
  · by_cases c2 : b = 10
    · subst c2
      go_enter Tryz.func75, Tryz.ntmps75
      go_wp2
      go_ret
      exact ⟨rfl, Below.refl _ _⟩
    · by_cases c3 : b = 13
      · subst c3
        go_enter Tryz.func75, Tryz.ntmps75
        go_wp2
        go_ret
        exact ⟨rfl, Below.refl _ _⟩
      · have d1 : ((b : Int) == 9) = false := by simp; omega
        have d2 : ((b : Int) == 10) = false := by simp; omega
        have d3 : ((b : Int) == 13) = false := by simp; omega
        have HC1 := conv_one b w.heap.size (w.alloc (.cells #[.int .u8 b] 5)) ((Blk.new w 5 #[.int .u8 b]).cell 0)
        by_cases hsg : signB b = true
        · have hE : Hid (byteT b = [92, b]) := by refine Lib.hid ?_; unfold byteT; rw [if_neg c1, if_neg c2, if_neg c3, if_pos hsg]
          have hS : Hid (bytesStr [92] ++ bytesStr [b] = bytesStr [92, b]) := bytesStr_append [92] [b]
          have hcs : b = 92 ∨ b = 91 ∨ b = 93 ∨ b = 45 ∨ b = 94 := by
            unfold signB at hsg; simp only [Bool.or_eq_true, beq_iff_eq] at hsg; omega
          have hz1 : (bytesStr [b]).size = 1 := bytesStr_size [b]
          clear hsg c1 c2 c3
          rcases hcs with e | e | e | e | e
          · have q0 : ((b : Int) == 92) = true := by rw [e]; rfl
            clear e
            go_enter Tryz.func75, Tryz.ntmps75
            go_wp2
            go_ret
            exact ⟨by rw [hE.out, ← hS.out]; rfl, (Below.refl _ w).alloc (Nat.le_refl _) _⟩
          · have q0 : ((b : Int) == 92) = false := by rw [e]; rfl
            have q1 : ((b : Int) == 91) = true := by rw [e]; rfl
            clear e
            go_enter Tryz.func75, Tryz.ntmps75
            go_wp2
            go_ret
            exact ⟨by rw [hE.out, ← hS.out]; rfl, (Below.refl _ w).alloc (Nat.le_refl _) _⟩
          · have q0 : ((b : Int) == 92) = false := by rw [e]; rfl
            have q1 : ((b : Int) == 91) = false := by rw [e]; rfl
            have q2 : ((b : Int) == 93) = true := by rw [e]; rfl
            clear e
            go_enter Tryz.func75, Tryz.ntmps75
            go_wp2
            go_ret
            exact ⟨by rw [hE.out, ← hS.out]; rfl, (Below.refl _ w).alloc (Nat.le_refl _) _⟩
          · have q0 : ((b : Int) == 92) = false := by rw [e]; rfl
            have q1 : ((b : Int) == 91) = false := by rw [e]; rfl
            have q2 : ((b : Int) == 93) = false := by rw [e]; rfl
            have q3 : ((b : Int) == 45) = true := by rw [e]; rfl
            clear e
            go_enter Tryz.func75, Tryz.ntmps75
            go_wp2
            go_ret
            exact ⟨by rw [hE.out, ← hS.out]; rfl, (Below.refl _ w).alloc (Nat.le_refl _) _⟩
          · have q0 : ((b : Int) == 92) = false := by rw [e]; rfl
            have q1 : ((b : Int) == 91) = false := by rw [e]; rfl
            have q2 : ((b : Int) == 93) = false := by rw [e]; rfl
            have q3 : ((b : Int) == 45) = false := by rw [e]; rfl
            have q4 : ((b : Int) == 94) = true := by rw [e]; rfl
            clear e
            go_enter Tryz.func75, Tryz.ntmps75
            go_wp2
            go_ret
            exact ⟨by rw [hE.out, ← hS.out]; rfl, (Below.refl _ w).alloc (Nat.le_refl _) _⟩
        · have hs1 : ((b : Int) == 92) = false := by unfold signB at hsg; simp at hsg ⊢; omega
          have hs2 : ((b : Int) == 91) = false := by unfold signB at hsg; simp at hsg ⊢; omega
          have hs3 : ((b : Int) == 93) = false := by unfold signB at hsg; simp at hsg ⊢; omega
          have hs4 : ((b : Int) == 45) = false := by unfold signB at hsg; simp at hsg ⊢; omega
          have hs5 : ((b : Int) == 94) = false := by unfold signB at hsg; simp at hsg ⊢; omega
          by_cases c5 : 32 < b ∧ b ≤ 126
          · have hE : Hid (byteT b = [b]) := by refine Lib.hid ?_; unfold byteT; rw [if_neg c1, if_neg c2, if_neg c3, if_neg hsg, if_pos c5]
            obtain ⟨c5, c6⟩ := c5
            have k1 : decide ((32 : Int) < (b : Int)) = true := by simp; omega
            have k2 : decide ((b : Int) < 127) = true := by simp; omega
            clear hsg c1 c2 c3
            go_enter Tryz.func75, Tryz.ntmps75
            go_wp2
            go_ret
            exact ⟨by rw [hE.out]; rfl, (Below.refl _ w).alloc (Nat.le_refl _) _⟩
          · have hE : Hid (byteT b = [92, 120, hexC (b / 16), hexC (b % 16)]) := by refine Lib.hid ?_; unfold byteT; rw [if_neg c1, if_neg c2, if_neg c3, if_neg hsg, if_neg c5]
            have hS : Hid (bytesStr [92, 120] ++ bytesStr [hexC (b / 16), hexC (b % 16)] = bytesStr [92, 120, hexC (b / 16), hexC (b % 16)]) := bytesStr_append [92, 120] [hexC (b / 16), hexC (b % 16)]
            have hI1 : ∀ w', (Instr.index 9 (.string ⟨#[48, 49, 50, 51, 52, 53, 54, 55, 56, 57, 97, 98, 99, 100, 101, 102]⟩) (.int .u8 ((b : Int) / 16))).run Tryz.prog w' = .ok (.int .u8 (hexC (b / 16) : Nat)) w' := by
              rw [show ((b : Int) / 16) = ((b / 16 : Nat) : Int) by omega]; exact hex_ix (b / 16) (by omega)
            have hI2 : ∀ w', (Instr.index 9 (.string ⟨#[48, 49, 50, 51, 52, 53, 54, 55, 56, 57, 97, 98, 99, 100, 101, 102]⟩) (.int .u8 ((b : Int) % 16))).run Tryz.prog w' = .ok (.int .u8 (hexC (b % 16) : Nat)) w' := by
              rw [show ((b : Int) % 16) = ((b % 16 : Nat) : Int) by omega]; exact hex_ix (b % 16) (by omega)
            obtain ⟨x, hx⟩ : ∃ x, x = hexC (b / 16) := ⟨_, rfl⟩
            obtain ⟨y, hy⟩ : ∃ y, y = hexC (b % 16) := ⟨_, rfl⟩
            rw [← hx, ← hy] at hE hS
            rw [← hx] at hI1
            rw [← hy] at hI2
            have HC2 := fun (W : World) (h0 : W.cell? ⟨w.heap.size, 0, none⟩ = some (.int .u8 x)) (h1 : W.cell? ⟨w.heap.size, 1, none⟩ = some (.int .u8 y)) => conv_two x y w.heap.size W h0 h1
            have HC3 : (convert 58 9 (.slice (some ⟨w.heap.size, 0, none⟩) 2 2)).run Tryz.prog (w.alloc (.cells #[.int .u8 x, .int .u8 y] 5)).drew = .ok (.string (bytesStr [x, y])) (w.alloc (.cells #[.int .u8 x, .int .u8 y] 5)).drew := HC2 _ ((Blk.new w 5 #[.int .u8 x, .int .u8 y]).cell 0) ((Blk.new w 5 #[.int .u8 x, .int .u8 y]).cell 1)
            have hz2 : (bytesStr [x, y]).size = 2 := bytesStr_size [x, y]
            clear hx hy HC1 HC2 hsg
            by_cases c6 : 32 < b
            · have k1 : decide ((32 : Int) < (b : Int)) = true := by simp; omega
              have k2 : decide ((b : Int) < 127) = false := by simp; omega
              clear c1 c2 c3
              go_enter Tryz.func75, Tryz.ntmps75
              go_wp2
              go_region
              all_goals go_wp2
              all_goals go_ret
              all_goals exact ⟨by rw [hE.out, ← hS.out]; rfl, ((Below.refl _ w).alloc (Nat.le_refl _) _).drew⟩
            · have k1 : decide ((32 : Int) < (b : Int)) = false := by simp; omega
              clear c1 c2 c3
              go_enter Tryz.func75, Tryz.ntmps75
              go_wp2
              go_region
              all_goals go_wp2
              all_goals go_ret
              all_goals exact ⟨by rw [hE.out, ← hS.out]; rfl, ((Below.refl _ w).alloc (Nat.le_refl _) _).drew⟩
end Go.Proofs.YtdodkbpagbblmaaGreatDoor
end
section
namespace Go.Proofs.YtdodkbpagbblmaaGreatDoor
open Go Go.RowKit

/-- Sets as they lie behind a slice. -/
def RowB (w : World) (a : Option Addr) (l : List BS) : Prop :=
  ∀ (i : Nat) (x : BS), l[i]? = some x → ∃ b off, a = some ⟨b, off, none⟩ ∧ w.cell? ⟨b, off + i * 4, none⟩ = some (.int .u64 (wdI x 0)) ∧ w.cell? ⟨b, off + i * 4 + 1, none⟩ = some (.int .u64 (wdI x 1)) ∧ w.cell? ⟨b, off + i * 4 + 2, none⟩ = some (.int .u64 (wdI x 2)) ∧ w.cell? ⟨b, off + i * 4 + 3, none⟩ = some (.int .u64 (wdI x 3))

def unionL (l : List BS) : BS := l.foldl (fun u s => u ||| s) 0#256

theorem cset_zero : cset 0#256 = zcs := by
  have h : ∀ i, i < 4 → wdI 0#256 i = 0 := by decide
  unfold cset zcs; rw [h 0 (by omega), h 1 (by omega), h 2 (by omega), h 3 (by omega)]

end Go.Proofs.YtdodkbpagbblmaaGreatDoor
end
section
namespace Go.Proofs.YtdodkbpagbblmaaGreatDoor
open Go Go.RowKit

/-- Bytes as they lie behind a slice. -/
def RowY (w : World) (a : Option Addr) (l : List Nat) : Prop :=
  ∀ (i : Nat) (x : Nat), l[i]? = some x → ∃ b off, a = some ⟨b, off, none⟩ ∧ w.cell? ⟨b, off + i, none⟩ = some (.int .u8 x)
def SmallY (l : List Nat) : Prop := ∀ x ∈ l, x < 256
theorem RowY.below {w w' : World} {a : Option Addr} {l : List Nat} {n : Nat} (h : RowY w a l) (hB : Below n w w') (hn : w.heap.size ≤ n) : RowY w' a l := by
  intro i x hx
  obtain ⟨b, off, e, h1⟩ := h i x hx
  have := lt_of_cell h1
  exact ⟨b, off, e, (hB.cell (p := ⟨b, _, none⟩) (show b < n by omega)).trans h1⟩

/-- The set of just these bytes. -/
def ofL (l : List Nat) : BS := l.foldl withB 0#256
theorem ofL_snoc (l : List Nat) (x : Nat) : ofL (l ++ [x]) = withB (ofL l) x := by simp [ofL, List.foldl_append]

end Go.Proofs.YtdodkbpagbblmaaGreatDoor
end
section
namespace Go.Proofs.YtdodkbpagbblmaaGreatDoor
open Go Go.RowKit

/-- The bytes below k of which f says so. -/
def lowB (f : Nat → Bool) : Nat → BS
  | 0 => 0#256
  | k + 1 => if f k then withB (lowB f k) k else lowB f k

theorem lowB_bit (f : Nat → Bool) (k j : Nat) (hk : k ≤ 256) : (lowB f k).getLsbD j = (decide (j < k) && f j) := by
  induction k with
  | zero => simp [lowB]
  | succ k ih =>
    have ih := ih (by omega)
    unfold lowB
    by_cases e : j = k
    · subst e
      cases hf : f j with
      | true => simp only [if_true]; rw [withB_bit _ _ _ (by omega)]; simp
      | false => simp only [Bool.false_eq_true, if_false]; rw [ih]; simp
    · have h1 : (j < k + 1) ↔ (j < k) := by omega
      cases hf : f k with
      | true => simp only [if_true]; rw [withB_bit _ _ _ (by omega), ih]; simp [h1, show ¬ k = j from fun h => e h.symm]
      | false => simp only [Bool.false_eq_true, if_false]; rw [ih]; simp [h1]

theorem lowB_eq (f : Nat → Bool) (s : BS) (h : ∀ j, j < 256 → f j = s.getLsbD j) : lowB f 256 = s := by
  apply BitVec.eq_of_getLsbD_eq; intro j hj
  rw [lowB_bit _ _ _ (Nat.le_refl _), h j hj]; simp [hj]

set_option maxRecDepth 100000 in
set_option maxHeartbeats 4000000 in
theorem rnot_any (s : BS) (w : World) : Calls Tryz.prog 67 #[vset s] w fun e w' => e = .returned (vset (~~~s)) ∧ Below w.heap.size w w' := by
  have HF : Hid (lowB (fun j => !s.getLsbD j) 256 = ~~~s) := lowB_eq _ _ fun j hj => by rw [BitVec.getLsbD_not]; simp [hj]
  obtain ⟨ns, hns⟩ : ∃ ns, ns = ~~~s := ⟨_, rfl⟩
  rw [← hns] at HF ⊢
  clear hns
  have HL : Hid (∀ k, lowB (fun j => !s.getLsbD j) (k + 1) = if (!s.getLsbD k) = true then withB (lowB (fun j => !s.getLsbD j) k) k else lowB (fun j => !s.getLsbD j) k) := fun k => rfl
  have HZ0 : Hid (lowB (fun j => !s.getLsbD j) 0 = 0#256) := Lib.hid rfl
  generalize lowB (fun j => !s.getLsbD j) = L at HF HL HZ0
  unfold vset
  go_enter Tryz.func67, Tryz.ntmps67
  go_wp2
  go_loopw [4] (fun i wr => ∃ (k : Nat), i = .int .i64 k ∧ k ≤ 256 ∧ Hid (Blk wr w.heap.size 33 (cset s)) ∧ Hid (Blk wr (w.heap.size + 1) 33 zcs) ∧ Hid (Blk wr (w.heap.size + 1 + 1) 33 (cset (L k))) ∧ Hid (Below w.heap.size w wr))
    (fun i _ => 256 - (intOf i).toNat)
  case atStart =>
    refine ⟨0, rfl, Nat.zero_le _, ?_, ?_, ?_, ?_⟩
    · exact ((Blk.new w 33 _).alloc _).alloc _
    · have h := (Blk.new (w.alloc (.cells (cset s) 33)) 33 zcs).alloc (.cells zcs 33)
      rw [World.size_alloc] at h
      exact h
    · have h := Blk.new ((w.alloc (.cells (cset s) 33)).alloc (.cells zcs 33)) 33 zcs
      rw [World.size_alloc, World.size_alloc] at h
      rw [HZ0.out, cset_zero]
      exact h
    · exact (((Below.refl _ w).alloc (Nat.le_refl _) _).alloc (by simp) _).alloc (by simp; omega) _
  case round =>
    obtain ⟨k, rfl, hk, hA, hZ, hU, hB⟩ := hrel
    by_cases hlt : k < 256
    · have HN := Lib.hid (HL.out k)
      have HH := fun w' => Lib.hid (rhas_any s k hlt w')
      have HW := fun w' => Lib.hid (rwith_any (L k) k hlt w')
      obtain ⟨u, hu⟩ : ∃ u, u = L k := ⟨_, rfl⟩
      rw [← hu] at HN HW hU
      clear hu
      have c0 : wr.cell? ⟨w.heap.size, 0, none⟩ = some (.int .u64 (wdI s 0)) := hA.out.cell 0
      have c1 : wr.cell? ⟨w.heap.size, 1, none⟩ = some (.int .u64 (wdI s 1)) := hA.out.cell 1
      have c2 : wr.cell? ⟨w.heap.size, 2, none⟩ = some (.int .u64 (wdI s 2)) := hA.out.cell 2
      have c3 : wr.cell? ⟨w.heap.size, 3, none⟩ = some (.int .u64 (wdI s 3)) := hA.out.cell 3
      have hlt2 : w.heap.size + 1 + 1 < wr.heap.size := hU.out.lt
      cases hbit : s.getLsbD k with
      | true =>
        rw [hbit] at HN HH
        have HN2 : Hid (L (k + 1) = u) := Lib.hid HN.out
        clear hbit HN HW
        go_wp2_with fail
        refine (HH _).out.mono ?_
        rintro e w1 ⟨rfl, hB1⟩
        have hA1 := Lib.hid (hA.out.below hB1 (by omega))
        have hZ1 := Lib.hid (hZ.out.below hB1 (by omega))
        have hU1 := Lib.hid (hU.out.below hB1 (by omega))
        have hBB := Lib.hid (hB.out.trans (hB1.mono hB.out.size))
        clear hA hZ hU hB hB1 c0 c1 c2 c3 HH
        go_wp2
        go_roundw
        case rel =>
          refine ⟨k + 1, by go_num, by omega, hA1, hZ1, ?_, hBB⟩
          rw [HN2.out]; exact hU1
        case measure => simp [intOf]; omega
      | false =>
        rw [hbit] at HN HH
        have HN2 : Hid (L (k + 1) = withB u k) := Lib.hid HN.out
        clear hbit HN
        obtain ⟨u2, hu2⟩ : ∃ u2, u2 = withB u k := ⟨_, rfl⟩
        rw [← hu2] at HW HN2
        clear hu2
        go_wp2_with fail
        refine (HH _).out.mono ?_
        rintro e w1 ⟨rfl, hB1⟩
        have hA1 := Lib.hid (hA.out.below hB1 (by omega))
        have hZ1 := Lib.hid (hZ.out.below hB1 (by omega))
        have hU1 := Lib.hid (hU.out.below hB1 (by omega))
        have hBB := Lib.hid (hB.out.trans (hB1.mono hB.out.size))
        clear hA hZ hU hB hB1 c0 c1 c2 c3 HH
        have c0 : w1.cell? ⟨w.heap.size + 1 + 1, 0, none⟩ = some (.int .u64 (wdI u 0)) := hU1.out.cell 0
        have c1 : w1.cell? ⟨w.heap.size + 1 + 1, 1, none⟩ = some (.int .u64 (wdI u 1)) := hU1.out.cell 1
        have c2 : w1.cell? ⟨w.heap.size + 1 + 1, 2, none⟩ = some (.int .u64 (wdI u 2)) := hU1.out.cell 2
        have c3 : w1.cell? ⟨w.heap.size + 1 + 1, 3, none⟩ = some (.int .u64 (wdI u 3)) := hU1.out.cell 3
        have hlt3 : w.heap.size + 1 + 1 < w1.heap.size := hU1.out.lt
        go_wp2_with fail
        refine (HW _).out.mono ?_
        rintro e w2 ⟨rfl, hB2⟩
        have hA2 := Lib.hid (hA1.out.below hB2 (by omega))
        have hZ2 := Lib.hid (hZ1.out.below hB2 (by omega))
        have hU2 := Lib.hid (hU1.out.below hB2 (by omega))
        have hBC := Lib.hid (hBB.out.trans (hB2.mono hBB.out.size))
        clear hA1 hZ1 hU1 hBB hB2 c0 c1 c2 c3 HW
        have c0 : w2.cell? ⟨w.heap.size + 1 + 1, 0, none⟩ = some (.int .u64 (wdI u 0)) := hU2.out.cell 0
        have c1 : w2.cell? ⟨w.heap.size + 1 + 1, 1, none⟩ = some (.int .u64 (wdI u 1)) := hU2.out.cell 1
        have c2 : w2.cell? ⟨w.heap.size + 1 + 1, 2, none⟩ = some (.int .u64 (wdI u 2)) := hU2.out.cell 2
        have c3 : w2.cell? ⟨w.heap.size + 1 + 1, 3, none⟩ = some (.int .u64 (wdI u 3)) := hU2.out.cell 3
        have fz : ∀ i, w2.frozen? ⟨w.heap.size + 1 + 1, i, none⟩ = false := hU2.out.frozen
        unfold vset
        go_wp2
        go_roundw
        case rel =>
          refine ⟨k + 1, by go_num, by omega, ?_, ?_, ?_, ?_⟩
          · exact (((hA2.out.other (by simp; omega) _).other (by simp; omega) _).other (by simp; omega) _).other (by simp; omega) _
          · exact (((hZ2.out.other (by simp) _).other (by simp) _).other (by simp) _).other (by simp) _
          · rw [HN2.out]; exact hU2.out.set4 _ _ _ _
          · exact below_set4 hBC.out (by omega) _ _ _ _
        case measure => simp [intOf]; omega
    · obtain rfl : k = 256 := by omega
      rw [HF.out] at hU
      have c0 : wr.cell? ⟨w.heap.size + 1 + 1, 0, none⟩ = some (.int .u64 (wdI ns 0)) := Blk.cell hU.out 0
      have c1 : wr.cell? ⟨w.heap.size + 1 + 1, 1, none⟩ = some (.int .u64 (wdI ns 1)) := Blk.cell hU.out 1
      have c2 : wr.cell? ⟨w.heap.size + 1 + 1, 2, none⟩ = some (.int .u64 (wdI ns 2)) := Blk.cell hU.out 2
      have c3 : wr.cell? ⟨w.heap.size + 1 + 1, 3, none⟩ = some (.int .u64 (wdI ns 3)) := Blk.cell hU.out 3
      have z0 : wr.cell? ⟨w.heap.size + 1, 0, none⟩ = some (.int .u64 0) := Blk.cell hZ.out 0
      have z1 : wr.cell? ⟨w.heap.size + 1, 1, none⟩ = some (.int .u64 0) := Blk.cell hZ.out 1
      have z2 : wr.cell? ⟨w.heap.size + 1, 2, none⟩ = some (.int .u64 0) := Blk.cell hZ.out 2
      have z3 : wr.cell? ⟨w.heap.size + 1, 3, none⟩ = some (.int .u64 0) := Blk.cell hZ.out 3
      have fz : ∀ i, wr.frozen? ⟨w.heap.size + 1, i, none⟩ = false := Blk.frozen hZ.out
      go_wp2
      have y := Blk.set4 hZ.out (.int .u64 (wdI ns 0)) (.int .u64 (wdI ns 1)) (.int .u64 (wdI ns 2)) (.int .u64 (wdI ns 3))
      have y0 := y.cell 0
      have y1 := y.cell 1
      have y2 := y.cell 2
      have y3 := y.cell 3
      refine bodyPost_ret (v := .agg #[.int .u64 (wdI ns 0), .int .u64 (wdI ns 1), .int .u64 (wdI ns 2), .int .u64 (wdI ns 3)]) (by simp [results, Tryz.results67, go_sem, y0, y1, y2, y3]) rfl ⟨rfl, ?_⟩
      exact below_set4 hB.out (by omega) _ _ _ _
end Go.Proofs.YtdodkbpagbblmaaGreatDoor
end
section
namespace Go.Proofs.YtdodkbpagbblmaaGreatDoor
open Go Go.RowKit

/-- A set's bytes below k, rising. -/
def bytesTo (s : BS) (k : Nat) : List Nat := (List.range' 0 k).filter (fun j => s.getLsbD j)
theorem bytesTo_succ (s : BS) (k : Nat) : bytesTo s (k + 1) = if s.getLsbD k = true then bytesTo s k ++ [k] else bytesTo s k := by
  unfold bytesTo
  rw [List.range'_1_concat, List.filter_append]
  cases h : s.getLsbD k <;> simp [h]
theorem bytesTo_len (s : BS) (k : Nat) : (bytesTo s k).length ≤ k := by
  unfold bytesTo
  refine Nat.le_trans (List.length_filter_le _ _) ?_
  rw [List.length_range']
  exact Nat.le_refl _

set_option maxRecDepth 100000 in
set_option maxHeartbeats 4000000 in
theorem rbytes_any (s : BS) (w : World) :
    Calls Tryz.prog 73 #[vset s] w fun e W' => ∃ v, e = .returned v ∧ W'.ownsRow w.heap.size 5 1 v (bytesL s).length ((bytesL s).map byteV) ∧ Below w.heap.size w W' := by
  obtain ⟨i0, hi, hz0, hz1, hz2⟩ := info_parts Tryz.info5
  have HL : Hid (∀ k, bytesTo s (k + 1) = if s.getLsbD k = true then bytesTo s k ++ [k] else bytesTo s k) := bytesTo_succ s
  have HLen : Hid (∀ k, (bytesTo s k).length ≤ k) := bytesTo_len s
  have HZ0 : Hid (bytesTo s 0 = []) := Lib.hid rfl
  have HE : Hid (bytesTo s 256 = bytesL s) := Lib.hid rfl
  generalize bytesTo s = L at HL HZ0 HE HLen
  unfold vset
  go_enter Tryz.func73, Tryz.ntmps73
  go_wp2
  go_loopw [3, 4] (fun q i wr => ∃ (k : Nat), i = .int .i64 k ∧ k ≤ 256 ∧ Hid (Blk wr w.heap.size 33 (cset s)) ∧ Hid (wr.ownsRow w.heap.size 5 1 q (L k).length ((L k).map byteV)) ∧ Hid (Below w.heap.size w wr))
    (fun _ i _ => 256 - (intOf i).toNat)
  case atStart =>
    refine ⟨0, rfl, Nat.zero_le _, Blk.new w 33 _, ?_, (Below.refl _ w).alloc (Nat.le_refl _) _⟩
    rw [HZ0.out]
    exact World.ownsRow_nil _ _ _ _
  case round =>
    obtain ⟨k, rfl, hk, hA, hO, hB⟩ := hrel
    by_cases hlt : k < 256
    · have HN := Lib.hid (HL.out k)
      have hll := HLen.out k
      have HH := fun w' => Lib.hid (rhas_any s k hlt w')
      obtain ⟨l, hl⟩ : ∃ l, l = L k := ⟨_, rfl⟩
      rw [← hl] at HN hO hll
      clear hl
      have c0 : wr.cell? ⟨w.heap.size, 0, none⟩ = some (.int .u64 (wdI s 0)) := hA.out.cell 0
      have c1 : wr.cell? ⟨w.heap.size, 1, none⟩ = some (.int .u64 (wdI s 1)) := hA.out.cell 1
      have c2 : wr.cell? ⟨w.heap.size, 2, none⟩ = some (.int .u64 (wdI s 2)) := hA.out.cell 2
      have c3 : wr.cell? ⟨w.heap.size, 3, none⟩ = some (.int .u64 (wdI s 3)) := hA.out.cell 3
      cases hbit : s.getLsbD k with
      | false =>
        rw [hbit] at HN HH
        have HN2 : Hid (L (k + 1) = l) := Lib.hid HN.out
        clear hbit HN
        go_wp2_with fail
        refine (HH _).out.mono ?_
        rintro e w1 ⟨rfl, hB1⟩
        have hA1 := Lib.hid (hA.out.below hB1 hA.out.lt)
        have hO1 := Lib.hid (own_below hO.out hB1 (Nat.le_refl _))
        have hBB := Lib.hid (hB.out.trans (hB1.mono hB.out.size))
        clear hA hO hB hB1 c0 c1 c2 c3 HH
        go_wp2
        go_roundw
        case rel =>
          refine ⟨k + 1, by go_num, by omega, hA1, ?_, hBB⟩
          rw [HN2.out]; exact hO1
        case measure => simp [intOf]; omega
      | true =>
        rw [hbit] at HN HH
        have HN2 : Hid (L (k + 1) = l ++ [k]) := Lib.hid HN.out
        clear hbit HN
        have hcv : IntKind.u8.wrap (k : Int) = (k : Int) := by rw [IntKind.wrap_u8']; omega
        go_wp2_with fail
        refine (HH _).out.mono ?_
        rintro e w1 ⟨rfl, hB1⟩
        have hA1 := Lib.hid (hA.out.below hB1 hA.out.lt)
        have hO1 := Lib.hid (own_below hO.out hB1 (Nat.le_refl _))
        have hBB := Lib.hid (hB.out.trans (hB1.mono hB.out.size))
        have hsz1 : w.heap.size ≤ w1.heap.size := hBB.out.size
        clear hA hO hB hB1 c0 c1 c2 c3 HH
        go_wp2_with (at_builtin; refine wpList_append_own _ rfl _ _ 58 rfl w.heap.size 5 i0 (.int .u8 0) 1 1 Tryz.underlying58 hi hz0 hz1 hz2 rfl (by decide) _ _ _ rfl (hO1.out.alloc _) ⟨w1.heap.size, 0, none⟩ 1 1 [.int .u8 k] rfl rfl (cell_one_new _ _ _) (by simp [Value.oneCell']) (by unfold maxLen; omega) (by omega) (by simp; omega) ?_; intro v4 w4 hown4 hgrow _)
        have hf4 := own_fin (hO1.out.alloc _) ((Lib.OthersKept.refl 5 none w1).alloc _) ((Below.refl w.heap.size w1).alloc hsz1 _) hsz1 hgrow
        have hA4 := Lib.hid (blk_others hA1.out (by decide) hf4.1)
        have hB4 := Lib.hid (hBB.out.trans hf4.2)
        have hO4 := Lib.hid hown4
        clear hA1 hO1 hBB hf4 hown4 hgrow
        go_roundw
        case rel =>
          refine ⟨k + 1, by go_num, by omega, hA4, ?_, hB4⟩
          rw [HN2.out, List.length_append, List.map_append]; exact hO4
        case measure => simp [intOf]; omega
    · obtain rfl : k = 256 := by omega
      rw [HE.out] at hO
      go_wp2
      go_ret
      exact ⟨u3, rfl, hO.out, hB.out⟩
end Go.Proofs.YtdodkbpagbblmaaGreatDoor
end
section
namespace Go.Proofs.YtdodkbpagbblmaaGreatDoor
open Go Go.RowKit

theorem pc_len (x : Nat) : ∀ n, pc x n = ((List.range' 0 n).filter (fun j => x.testBit j)).length := by
  intro n
  induction n with
  | zero => rfl
  | succ n ih =>
    rw [List.range'_1_concat, List.filter_append, List.length_append, ← ih]
    show pc x n + (if x.testBit n then 1 else 0) = _
    cases h : x.testBit n <;> simp [h]

theorem cnt_len (s : BS) : cnt s = (bytesL s).length := by
  unfold cnt bytesL
  rw [pc_len]
  rfl

theorem within_eq (a b : BS) : (a &&& ~~~b == 0#256) = (a &&& b == a) := by
  rw [Bool.eq_iff_iff, beq_iff_eq, beq_iff_eq]
  constructor
  · intro h
    apply BitVec.eq_of_getLsbD_eq; intro j hj
    have h1 := congrArg (fun x => BitVec.getLsbD x j) h
    simp only [BitVec.getLsbD_and, BitVec.getLsbD_not, hj, decide_true, Bool.true_and, BitVec.getLsbD_zero] at h1
    rw [BitVec.getLsbD_and]
    cases ha : a.getLsbD j <;> cases hb : b.getLsbD j <;> simp_all
  · intro h
    apply BitVec.eq_of_getLsbD_eq; intro j hj
    have h1 := congrArg (fun x => BitVec.getLsbD x j) h
    simp only [BitVec.getLsbD_and] at h1
    simp only [BitVec.getLsbD_and, BitVec.getLsbD_not, hj, decide_true, Bool.true_and, BitVec.getLsbD_zero]
    cases ha : a.getLsbD j <;> cases hb : b.getLsbD j <;> simp_all

/-- A rising list's k-th is k at least. -/
theorem rising_ge : ∀ (l : List Nat), l.Pairwise (· < ·) → ∀ (k x : Nat), l[k]? = some x → k ≤ x := by
  intro l hl k
  induction k with
  | zero => intro x _; omega
  | succ k ih =>
    intro x hx
    have hk : k + 1 < l.length := (List.getElem?_eq_some_iff.1 hx).1
    have h1 := ih l[k] (List.getElem?_eq_getElem (by omega))
    have h2 := (List.pairwise_iff_getElem.1 hl) k (k + 1) (by omega) hk (by omega)
    have h3 : l[k + 1] = x := by
      rw [List.getElem?_eq_getElem hk] at hx; exact Option.some.inj hx
    omega
theorem bytesL_rising (s : BS) : (bytesL s).Pairwise (· < ·) := by
  unfold bytesL
  exact List.Pairwise.filter _ List.pairwise_lt_range'
theorem bytesL_ge (s : BS) (k x : Nat) (h : (bytesL s)[k]? = some x) : k ≤ x := rising_ge _ (bytesL_rising s) k x h

theorem rngs_take_nil (l : List Nat) (k : Nat) (rs : List (Nat × Nat)) (r : Nat × Nat) (h : rngs (l.take k) = rs ++ [r]) : 0 < k := by
  cases k with
  | zero => simp [rngs] at h
  | succ k => omega

/-- The document's step, written otherwise. -/
theorem rstep_other (rs : List (Nat × Nat)) (r : Nat × Nat) (x : Nat) (hr : r.2 < 256) (hx : x < 256) (hx0 : 0 < x) :
    rstep (rs ++ [r]) x = if r.2 + 1 = x then rs ++ [(r.1, x)] else rs ++ [r] ++ [(x, x)] := by
  simp only [rstep, List.getLast?_append, List.getLast?_singleton, Option.some_or]
  have : ((x + 256 - r.2) % 256 = 1) ↔ (r.2 + 1 = x) := by omega
  simp [this]
end Go.Proofs.YtdodkbpagbblmaaGreatDoor
end
section
namespace Go.Proofs.YtdodkbpagbblmaaGreatDoor
open Go Go.RowKit

/-- What an append of ranges leaves: nothing else has turned. -/
theorem own_finR {w w1 w' : World} {n₀ : Nat} {v : Value} {n : Nat} {xs : List Value} (hown : w1.ownsRow n₀ 103 2 v n xs) (hk : Lib.OthersKept 103 none w w1) (hB : Below n₀ w w1) (hn : n₀ ≤ w.heap.size) (hg : w1.grownBy w' v.ownBlock) :
    Lib.OthersKept 103 none w w' ∧ Below n₀ w w' := by
  refine ⟨hk.grown hg (fun g e => Lib.ownsRow_kind hown g e), hB.grown hg (Nat.le_trans hn hB.size) fun j ej => ?_⟩
  rcases hown.2 with ⟨rfl, _⟩ | ⟨g, cap, cur, rfl, hb, _⟩
  · cases ej
  · obtain rfl : g = j := by simpa [Value.ownBlock] using ej
    exact hb
theorem own_othersR {W W' : World} {n₀ size n : Nat} {e : TypeId} {v : Value} {xs : List Value} (h : W.ownsRow n₀ e size v n xs) (he : e ≠ 103) (hk : Lib.OthersKept 103 none W W') : W'.ownsRow n₀ e size v n xs := by
  refine ⟨h.1, ?_⟩
  rcases h.2 with h1 | ⟨g, cap, cur, h1, h2, h3, h4⟩
  · exact .inl h1
  · exact .inr ⟨g, cap, cur, h1, h2, hk g _ h3 (by simp) (fun c fz e' => by cases e'; exact he rfl), h4⟩

theorem owned_rowY {w : World} {n₀ : Nat} {v : Value} {l : List Nat} (h : w.ownsRow n₀ 5 1 v l.length (l.map byteV)) : ∃ a cap, v = .slice a l.length cap ∧ RowY w a l := by
  rcases h.2 with ⟨rfl, h0⟩ | ⟨g, cap, cur, rfl, _⟩
  · have : l = [] := List.length_eq_zero_iff.1 h0
    subst this
    exact ⟨none, 0, rfl, fun i x hx => by simp at hx⟩
  · refine ⟨_, cap, rfl, fun i x hx => ?_⟩
    have hi := (List.getElem?_eq_some_iff.1 hx).1
    refine ⟨g, 0, rfl, ?_⟩
    rw [Nat.zero_add, h.cellAt i (by omega), List.getElem?_map, hx]
    rfl

set_option maxRecDepth 100000 in
set_option maxHeartbeats 8000000 in
theorem rranges_any (s : BS) (w : World) :
    Calls Tryz.prog 74 #[vset s] w fun e W' => ∃ v, e = .returned v ∧ W'.ownsRow w.heap.size 103 2 v (rngs (bytesL s)).length (cellsR (rngs (bytesL s))) ∧ Below w.heap.size w W' := by
  obtain ⟨iR, hiR, hzR0, hzR1, hzR2⟩ := info_parts Tryz.info103
  have HBy := fun w' => Lib.hid (rbytes_any s w')
  have hlenL := length_bytesL s
  have HSm : Hid (∀ x ∈ bytesL s, x < 256) := fun x hx => ((mem_bytesL s x).1 hx).1
  have HGe : Hid (∀ k x, (bytesL s)[k]? = some x → k ≤ x) := bytesL_ge s
  generalize bytesL s = L at HBy hlenL HSm HGe ⊢
  unfold vset at HBy ⊢
  go_enter Tryz.func74, Tryz.ntmps74
  go_wp2_with fail
  refine (HBy _).out.mono ?_
  rintro e w1 ⟨v, rfl, hown1, hB1⟩
  obtain ⟨al, cl, rfl, _⟩ := owned_rowY hown1
  have hOL := Lib.hid hown1
  have hB0 := Lib.hid (((Below.refl _ w).alloc (Nat.le_refl _) (.cells (cset s) 33)).trans (hB1.mono (by simp)))
  clear hown1 hB1 HBy
  have hsz0 : w.heap.size ≤ w1.heap.size := hB0.out.size
  have hOL2 : Hid (w1.ownsRow w.heap.size 5 1 (.slice al L.length cl) L.length (L.map byteV)) := by
    refine Lib.hid ⟨hOL.out.1, ?_⟩
    rcases hOL.out.2 with h1 | ⟨g, cap, cur, h1, h2, h3⟩
    · exact .inl h1
    · exact .inr ⟨g, cap, cur, h1, by simp at h2; omega, h3⟩
  clear hOL
  go_wp2
  go_loopw [3, 5] (fun q i wr => ∃ (k : Nat), i = .int .i64 k ∧ k ≤ L.length ∧ Hid (wr.ownsRow w.heap.size 103 2 q (rngs (L.take k)).length (cellsR (rngs (L.take k)))) ∧ Hid (wr.ownsRow w.heap.size 5 1 (.slice al L.length cl) L.length (L.map byteV)) ∧ Hid (Below w.heap.size w wr))
    (fun _ i _ => L.length - (intOf i).toNat)
  case atStart => exact ⟨0, rfl, Nat.zero_le _, World.ownsRow_nil _ _ _ _, hOL2, hB0⟩
  case round =>
    clear hOL2 hB0
    obtain ⟨k, rfl, hk, hO, hL, hB⟩ := hrel
    by_cases hlt : k < L.length
    · have HX : Hid (L[k]? = some L[k]) := Lib.hid (List.getElem?_eq_getElem hlt)
      have hx256 := HSm.out L[k] (List.getElem_mem hlt)
      have hge := HGe.out k L[k] (List.getElem?_eq_getElem hlt)
      obtain ⟨x, hx⟩ : ∃ x, L[k] = x := ⟨_, rfl⟩
      rw [hx] at HX hx256 hge
      have HRS : Hid (rngs (L.take (k + 1)) = rstep (rngs (L.take k)) x) := by
        refine Lib.hid ?_
        rw [List.take_add_one, HX.out]; exact rngs_snoc _ _
      clear hx
      have hlenP : (rngs (L.take k)).length ≤ 256 := by
        have h1 := rngs_length (L.take k)
        rw [List.length_take] at h1
        omega
      have hsm : SmallR (rngs (L.take k)) := rngs_small _ (fun y hy => HSm.out y (List.mem_of_mem_take hy))
      have hpos : ∀ rs r, rngs (L.take k) = rs ++ [r] → 0 < k := fun rs r h => rngs_take_nil L k rs r h
      obtain ⟨rs, hrs⟩ : ∃ rs, rs = rngs (L.take k) := ⟨_, rfl⟩
      rw [← hrs] at hO HRS hlenP hsm hpos
      clear hrs
      obtain ⟨al', cl', hsl, hrow⟩ := owned_rowY hL.out
      obtain ⟨b, off, hab, e0⟩ := hrow k _ HX.out
      cases hsl
      subst hab
      have r0 : wr.cell? ⟨b, off + k, none⟩ = some (.int .u8 x) := e0
      obtain ⟨aq, cq, rfl, _⟩ := owned_rowR hO.out
      have hszr : w.heap.size ≤ wr.heap.size := hB.out.size
      rcases List.eq_nil_or_concat rs with rfl | ⟨rs', r, hcat⟩
      · have HS : Hid (rngs (L.take (k + 1)) = [(x, x)]) := Lib.hid (HRS.out.trans rfl)
        clear HRS hpos hrow
        simp only [List.length_nil]
        go_wp2_with fail
        go_region
        go_wp2_with fail
        go_region_law (first | (refine step_append_lies _ (by rfl) _ _ _ (by rfl) w.heap.size 103 iR _ 2 2 Tryz.underlying100 hiR hzR0 hzR1 hzR2 rfl (by decide) _ _ _ (by rfl) (hO.out.alloc (.cells #[.int .u8 x, .int .u8 x] 103)) ⟨wr.heap.size, 0, none⟩ 1 1 [.int .u8 x, .int .u8 x] (by rfl) (by rfl) (World.news_of_block (cs := #[.int .u8 x, .int .u8 x]) (Blk.new wr 103 _)) (by simp [Value.oneCell']) (by omega) (by unfold maxLen; simp) (by simp) (by simp; omega) _ rfl ?_; intro g cap w1 hown1 hgrow _ _))
        all_goals
          have hf := own_finR (w := wr) (w1 := (wr.alloc (.cells #[.int .u8 x, .int .u8 x] 103)).drew.drew) (hO.out.alloc _) ((Lib.OthersKept.refl 103 none wr).alloc _).drew.drew ((Below.refl w.heap.size wr).alloc hszr _).drew.drew hszr hgrow
          have hL2 := Lib.hid (own_othersR hL.out (by decide) hf.1)
          have hB2 := Lib.hid (hB.out.trans hf.2)
          have hO2 := Lib.hid hown1
          clear hown1 hgrow hf hL hB hO e0 r0
          go_wp2
          go_roundw
          case rel => exact ⟨k + 1, by go_num, by omega, by rw [HS.out]; exact hO2, hL2, hB2⟩
          case measure => simp [intOf]; omega
      · rw [List.concat_eq_append] at hcat
        subst hcat
        obtain ⟨f, t⟩ := r
        have hk0 : 0 < k := hpos rs' (f, t) rfl
        have ht : t < 256 := (hsm (f, t) (by simp)).2
        have HS : Hid (rngs (L.take (k + 1)) = if t + 1 = x then rs' ++ [(f, x)] else rs' ++ [(f, t)] ++ [(x, x)]) := by
          refine Lib.hid (HRS.out.trans ?_)
          exact rstep_other rs' (f, t) x ht hx256 (by omega)
        have hrl : (rs' ++ [(f, t)]).length = rs'.length + 1 := by simp
        rw [hrl] at hO hlenP ⊢
        obtain ⟨g, cap, hsl⟩ := ownsRow_succ hO.out
        cases hsl
        have hc : wr.cell? ⟨g, rs'.length * 2 + 1, none⟩ = some (.int .u8 t) := (hO.out.cellAt (rs'.length * 2 + 1) (by omega)).trans (cellsR_last rs' (f, t))
        clear HRS hpos hsm
        have hw1 : IntKind.i64.wrap (t : Int) = (t : Int) := IntWalk.i64_in _ (by omega)
        have hw2 : IntKind.i64.wrap ((t : Int) + 1) = (t : Int) + 1 := IntWalk.i64_in _ (by omega)
        have hw3 : IntKind.i64.wrap (x : Int) = (x : Int) := IntWalk.i64_in _ (by omega)
        by_cases heq : t + 1 = x
        · have he1 : ((t : Int) + 1 == (x : Int)) = true := by simp; omega
          go_wp2_with fail
          go_region
          have hfg := hO.out.frozenAt (rs'.length * 2 + 1)
          rw [if_pos heq] at HS
          obtain ⟨hst, hgr⟩ := hO.out.stored (rs'.length * 2 + 1) (.int .u8 x)
          have hf := own_finR (w := wr) (w1 := wr) hO.out (Lib.OthersKept.refl 103 none wr) (Below.refl _ wr) hszr hgr
          have hL2 := Lib.hid (own_othersR hL.out (by decide) hf.1)
          have hB2 := Lib.hid (hB.out.trans hf.2)
          have hO2 := Lib.hid hst
          have hkk : (rs' ++ [(f, x)]).length = rs'.length + 1 := by simp
          have HKK := Lib.hid hkk
          clear hst hgr hf hL hB hkk hO e0
          go_wp2
          go_roundw
          case rel =>
            refine ⟨k + 1, by go_num, by omega, ?_, hL2, Lib.hid hB2.out.drew⟩
            rw [HS.out, HKK.out]
            have h := hO2.out
            rw [cellsR_set rs' (f, t) x] at h
            exact h
          case measure => simp [intOf]; omega
        · have he1 : ((t : Int) + 1 == (x : Int)) = false := by simp; omega
          go_wp2_with fail
          go_region
          rw [if_neg heq] at HS
          have hkk : (rs' ++ [(f, t)] ++ [(x, x)]).length = rs'.length + 1 + 1 := by simp
          have HKK := Lib.hid hkk
          clear hkk
          go_wp2_with fail
          go_region_law (first | (refine step_append_lies _ (by rfl) _ _ _ (by rfl) w.heap.size 103 iR _ 2 2 Tryz.underlying100 hiR hzR0 hzR1 hzR2 rfl (by decide) _ _ _ (by rfl) (hO.out.alloc (.cells #[.int .u8 x, .int .u8 x] 103)) ⟨wr.heap.size, 0, none⟩ 1 1 [.int .u8 x, .int .u8 x] (by rfl) (by rfl) (World.news_of_block (cs := #[.int .u8 x, .int .u8 x]) (Blk.new wr 103 _)) (by simp [Value.oneCell']) (by omega) (by unfold maxLen; omega) (by omega) (by simp; omega) _ rfl ?_; intro g2 cap2 w1 hown1 hgrow _ _))
          all_goals
            have hf := own_finR (w := wr) (w1 := (wr.alloc (.cells #[.int .u8 x, .int .u8 x] 103)).drew.drew) (hO.out.alloc _) ((Lib.OthersKept.refl 103 none wr).alloc _).drew.drew ((Below.refl w.heap.size wr).alloc hszr _).drew.drew hszr hgrow
            have hL2 := Lib.hid (own_othersR hL.out (by decide) hf.1)
            have hB2 := Lib.hid (hB.out.trans hf.2)
            have hO2 := Lib.hid hown1
            clear hown1 hgrow hf hL hB hO e0 r0 hc
            go_wp2
            go_roundw
            case rel =>
              refine ⟨k + 1, by go_num, by omega, ?_, hL2, hB2⟩
              rw [HS.out, HKK.out, cellsR_snoc]
              exact hO2.out
            case measure => simp [intOf]; omega
    · obtain rfl : k = L.length := by omega
      rw [List.take_length] at hO
      go_wp2
      go_ret
      exact ⟨u3, rfl, hO.out, hB.out⟩
end Go.Proofs.YtdodkbpagbblmaaGreatDoor
end
section
namespace Go.Proofs.YtdodkbpagbblmaaGreatDoor
open Go Go.RowKit

/-- A set's ranges go up. -/
theorem rngs_le (s : BS) : ∀ k, k ≤ (bytesL s).length → ∀ r ∈ rngs ((bytesL s).take k), r.1 ≤ r.2 := by
  intro k
  induction k with
  | zero => intro _ r hr; simp [rngs] at hr
  | succ k ih =>
    intro hk r hr
    have hx : (bytesL s)[k]? = some (bytesL s)[k] := List.getElem?_eq_getElem (by omega)
    have hge := bytesL_ge s k _ hx
    have hlt := ((mem_bytesL s _).1 (List.mem_of_getElem? hx)).1
    obtain ⟨x, hx2⟩ : ∃ x, (bytesL s)[k] = x := ⟨_, rfl⟩
    rw [hx2] at hx hge hlt
    rw [List.take_add_one, hx] at hr
    have e : rngs (List.take k (bytesL s) ++ (some x).toList) = rstep (rngs ((bytesL s).take k)) x := rngs_snoc _ _
    rw [e] at hr
    have hsm : SmallR (rngs ((bytesL s).take k)) := rngs_small _ (fun y hy => ((mem_bytesL s y).1 (List.mem_of_mem_take hy)).1)
    rcases List.eq_nil_or_concat (rngs ((bytesL s).take k)) with h0 | ⟨rs', q, hcat⟩
    · rw [h0] at hr
      simp [rstep] at hr
      subst hr
      exact Nat.le_refl _
    · rw [List.concat_eq_append] at hcat
      have hk0 := rngs_take_nil _ k rs' q hcat
      have hq := ih (by omega) q (by rw [hcat]; simp)
      have hq2 := (hsm q (by rw [hcat]; simp)).2
      rw [hcat, rstep_other rs' q x hq2 hlt (by omega)] at hr
      split at hr
      · simp at hr
        rcases hr with hr | rfl
        · exact ih (by omega) r (by rw [hcat]; simp [hr])
        · simp; omega
      · simp at hr
        rcases hr with hr | rfl | rfl
        · exact ih (by omega) r (by rw [hcat]; simp [hr])
        · exact hq
        · exact Nat.le_refl _
theorem rngs_up (s : BS) : ∀ r ∈ rngs (bytesL s), r.1 ≤ r.2 := by
  have h := rngs_le s (bytesL s).length (Nat.le_refl _)
  rw [List.take_length] at h
  exact h

set_option maxRecDepth 100000 in
set_option maxHeartbeats 8000000 in
theorem rtext_any (s : BS) (w : World) :
    Calls Tryz.prog 51 #[vset s] w fun e w' => e = .returned (.string (bytesStr (textS s))) ∧ Below w.heap.size w w' := by
  have HTX : Hid (textS s = if 128 < (bytesL s).length then [91, 94] ++ rangesT (rngs (bytesL (~~~s))) ++ [93] else [91] ++ rangesT (rngs (bytesL s)) ++ [93]) := by
    refine Lib.hid ?_
    unfold textS; rw [cnt_len]
  have K1 := rbytes_any s
  have K2 := rnot_any s
  obtain ⟨ns, hns⟩ : ∃ ns, ns = ~~~s := ⟨_, rfl⟩
  rw [← hns] at K2 HTX
  clear hns
  obtain ⟨N, hN⟩ : ∃ N, N = (bytesL s).length := ⟨_, rfl⟩
  rw [← hN] at K1 HTX
  obtain ⟨TX, hTX⟩ : ∃ TX, TX = textS s := ⟨_, rfl⟩
  rw [← hTX] at HTX ⊢
  clear hTX
  unfold vset at K1 K2
  have H1 := fun w' => Lib.hid (K1 w')
  have H2 := fun w' => Lib.hid (K2 w')
  clear K1 K2
  have hzN : (bytesL s).length = N := hN.symm
  have HY : ∀ {W : World} {b : Nat} {v : Value}, W.ownsRow b 5 1 v N ((bytesL s).map byteV) → ∃ a c, v = .slice a N c := by
    intro W b v h
    rw [hN] at h ⊢
    obtain ⟨a, c, e, _⟩ := owned_rowY h
    exact ⟨a, c, e⟩
  have HYY := @HY
  clear HY hN hzN
  unfold vset
  go_enter Tryz.func51, Tryz.ntmps51
  go_wp2_with fail
  refine (H1 _).out.mono ?_
  rintro e w1 ⟨v, rfl, hown, hB1⟩
  obtain ⟨a, c, rfl⟩ := HYY hown
  have hA1 := Lib.hid ((Blk.new w 33 (cset s)).below hB1 (by simp))
  have hBB := Lib.hid (((Below.refl _ w).alloc (Nat.le_refl _) (.cells (cset s) 33)).trans (hB1.mono (by simp)))
  clear hown hB1 H1 HYY
  have c0 : w1.cell? ⟨w.heap.size, 0, none⟩ = some (.int .u64 (wdI s 0)) := hA1.out.cell 0
  have c1 : w1.cell? ⟨w.heap.size, 1, none⟩ = some (.int .u64 (wdI s 1)) := hA1.out.cell 1
  have c2 : w1.cell? ⟨w.heap.size, 2, none⟩ = some (.int .u64 (wdI s 2)) := hA1.out.cell 2
  have c3 : w1.cell? ⟨w.heap.size, 3, none⟩ = some (.int .u64 (wdI s 3)) := hA1.out.cell 3
  go_upto_if 9 with fail
  go_cut [3] (fun s3 wx => ∃ (su : BS) (hd : List Nat), s3 = .string (bytesStr hd) ∧ hd.length ≤ 2 ∧ Hid (TX = hd ++ rangesT (rngs (bytesL su)) ++ [93]) ∧ Hid (Blk wx w.heap.size 33 (cset su)) ∧ Hid (Below w.heap.size w wx))
  case first =>
    by_cases hbig : 128 < N
    · have hb' : (128 : Int) < N := by omega
      have HT2 : Hid (TX = [91, 94] ++ rangesT (rngs (bytesL ns)) ++ [93]) := Lib.hid (by rw [HTX.out, if_pos hbig])
      clear HTX
      go_wp2_with fail
      refine (H2 _).out.mono ?_
      rintro e w2 ⟨rfl, hB2⟩
      have hA2 := Lib.hid (hA1.out.below hB2 hA1.out.lt)
      have hBC := Lib.hid (hBB.out.trans (hB2.mono hBB.out.size))
      clear hA1 hBB hB2 H2 c0 c1 c2 c3
      have c0 : w2.cell? ⟨w.heap.size, 0, none⟩ = some (.int .u64 (wdI s 0)) := hA2.out.cell 0
      have c1 : w2.cell? ⟨w.heap.size, 1, none⟩ = some (.int .u64 (wdI s 1)) := hA2.out.cell 1
      have c2 : w2.cell? ⟨w.heap.size, 2, none⟩ = some (.int .u64 (wdI s 2)) := hA2.out.cell 2
      have c3 : w2.cell? ⟨w.heap.size, 3, none⟩ = some (.int .u64 (wdI s 3)) := hA2.out.cell 3
      have fz : ∀ i, w2.frozen? ⟨w.heap.size, i, none⟩ = false := hA2.out.frozen
      go_wp2_with fail
      go_meet
      exact ⟨ns, [91, 94], rfl, by simp, HT2, hA2.out.set4 _ _ _ _, below_set4 hBC.out (Nat.le_refl _) _ _ _ _⟩
    · have hb' : ¬ (128 : Int) < N := by omega
      have HT2 : Hid (TX = [91] ++ rangesT (rngs (bytesL s)) ++ [93]) := Lib.hid (by rw [HTX.out, if_neg hbig])
      clear HTX
      go_wp2_with fail
      go_meet
      exact ⟨s, [91], rfl, by simp, HT2, hA1, hBB⟩
  case rest =>
    obtain ⟨wb, rfl⟩ : ∃ wb : World, wb = wc := ⟨_, rfl⟩
    obtain ⟨su, hd, rfl, hhd, HT2, hA, hB⟩ := hcut
    clear hA1 hBB H2 HTX c0 c1 c2 c3
    have K3 := rranges_any su
    have hrl := rngs_length (bytesL su)
    have hbl := length_bytesL su
    have hsm := rngs_small (bytesL su) (fun x hx => ((mem_bytesL su x).1 hx).1)
    have hup := rngs_up su
    obtain ⟨R, hR⟩ : ∃ R, R = rngs (bytesL su) := ⟨_, rfl⟩
    rw [← hR] at K3 hrl hsm hup HT2
    have hR2 : R.length ≤ 256 := by omega
    clear hR hrl hbl
    have HSM := Lib.hid hsm
    have HUP := Lib.hid hup
    clear hsm hup
    unfold vset at K3
    have H3 := fun w' => Lib.hid (K3 w')
    clear K3
    have c0 : wb.cell? ⟨w.heap.size, 0, none⟩ = some (.int .u64 (wdI su 0)) := hA.out.cell 0
    have c1 : wb.cell? ⟨w.heap.size, 1, none⟩ = some (.int .u64 (wdI su 1)) := hA.out.cell 1
    have c2 : wb.cell? ⟨w.heap.size, 2, none⟩ = some (.int .u64 (wdI su 2)) := hA.out.cell 2
    have c3 : wb.cell? ⟨w.heap.size, 3, none⟩ = some (.int .u64 (wdI su 3)) := hA.out.cell 3
    go_wp2_with fail
    refine (H3 _).out.mono ?_
    rintro e w5 ⟨v, rfl, hown, hB5⟩
    obtain ⟨ar, cr, rfl, hrow⟩ := owned_rowR hown
    have HR := Lib.hid hrow
    have HB := Lib.hid (hB.out.trans (hB5.mono hB.out.size))
    clear hown hrow hB5 hA hB H3 c0 c1 c2 c3
    have hO0 := bytesStr_size hd
    obtain ⟨O0, hO0e⟩ : ∃ O0, O0 = bytesStr hd := ⟨_, rfl⟩
    have hO0s : O0.size ≤ 2 := by rw [hO0e, hO0]; exact hhd
    have HO0 := Lib.hid hO0e
    rw [← hO0e]
    clear hO0e hO0
    go_wp2
    go_loopw [3, 5] (fun q i wr => ∃ (k : Nat) (O : ByteArray), i = .int .i64 k ∧ q = .string O ∧ k ≤ R.length ∧ O.size ≤ 9 * k + 2 ∧ Hid (O = bytesStr (hd ++ rangesT (R.take k))) ∧ Hid (Below w5.heap.size w5 wr))
      (fun _ i _ => R.length - (intOf i).toNat)
    case atStart => exact ⟨0, O0, rfl, rfl, Nat.zero_le _, by omega, by refine Lib.hid ?_; rw [HO0.out]; simp [rangesT], Below.refl _ _⟩
    case round =>
      clear HO0 hO0s
      obtain ⟨k, O, rfl, rfl, hk, hOs, hO, hW⟩ := hrel
      by_cases hlt : k < R.length
      · have HX : Hid (R[k]? = some R[k]) := Lib.hid (List.getElem?_eq_getElem hlt)
        obtain ⟨x1, x2⟩ := HSM.out R[k] (List.getElem_mem hlt)
        have x3 := HUP.out R[k] (List.getElem_mem hlt)
        obtain ⟨x, hx⟩ : ∃ x, R[k] = x := ⟨_, rfl⟩
        rw [hx] at HX x1 x2 x3
        clear hx
        obtain ⟨f, t⟩ := x
        dsimp only at x1 x2 x3
        have HL : Hid (∀ X, X = rangeT (f, t) → O ++ bytesStr X = bytesStr (hd ++ rangesT (R.take (k + 1)))) := by
          refine Lib.hid fun X hX => ?_
          rw [hO.out, hX, bytesStr_append, List.take_add_one, HX.out]
          show bytesStr (hd ++ rangesT (R.take k) ++ rangeT (f, t)) = bytesStr (hd ++ rangesT (R.take k ++ [(f, t)]))
          rw [rangesT_snoc, List.append_assoc]
        obtain ⟨b', off, hab, e1, e2⟩ := HR.out k _ HX.out
        have r1 : wr.cell? ⟨b', off + k * 2, none⟩ = some (.int .u8 f) := (hW.out.cell (p := ⟨b', _, none⟩) (lt_of_cell e1)).trans e1
        have r2 : wr.cell? ⟨b', off + k * 2 + 1, none⟩ = some (.int .u8 t) := (hW.out.cell (p := ⟨b', _, none⟩) (lt_of_cell e1)).trans e2
        subst hab
        have O1 := fun w' => Lib.hid (rone_any f x1 w')
        have O2 := fun w' => Lib.hid (rone_any t x2 w')
        have s1 := bytesStr_size (byteT f)
        have s2 := bytesStr_size (byteT t)
        have l1 := byteT_len f
        have l2 := byteT_len t
        obtain ⟨F1, hF1⟩ : ∃ F1, F1 = bytesStr (byteT f) := ⟨_, rfl⟩
        obtain ⟨F2, hF2⟩ : ∃ F2, F2 = bytesStr (byteT t) := ⟨_, rfl⟩
        rw [← hF1] at O1 s1
        rw [← hF2] at O2 s2
        have hF1s : F1.size ≤ 4 := by omega
        have hF2s : F2.size ≤ 4 := by omega
        have HF1 := Lib.hid hF1
        have HF2 := Lib.hid hF2
        clear hF1 hF2 s1 s2 l1 l2
        go_wp2_with fail
        refine (O1 _).out.mono ?_
        rintro e w6 ⟨rfl, hB6⟩
        have q1 : w6.cell? ⟨b', off + k * 2, none⟩ = some (.int .u8 f) := (hB6.cell (p := ⟨b', _, none⟩) (lt_of_cell r1)).trans r1
        have q2 : w6.cell? ⟨b', off + k * 2 + 1, none⟩ = some (.int .u8 t) := (hB6.cell (p := ⟨b', _, none⟩) (lt_of_cell r1)).trans r2
        have hW6 := Lib.hid (hW.out.trans (hB6.mono hW.out.size))
        clear hB6 hW r1 r2 O1
        have hw1 : IntKind.i64.wrap (t : Int) = (t : Int) := IntWalk.i64_in _ (by omega)
        have hw2 : IntKind.i64.wrap (f : Int) = (f : Int) := IntWalk.i64_in _ (by omega)
        have hw3 : IntKind.i64.wrap ((t : Int) - (f : Int)) = (t : Int) - (f : Int) := IntWalk.i64_in _ (by omega)
        have hOb : O.size ≤ 3000 := by omega
        by_cases heq : f = t
        · subst heq
          have HLL : Hid (O ++ F1 = bytesStr (hd ++ rangesT (R.take (k + 1)))) := by
            refine Lib.hid ?_
            rw [HF1.out]
            refine HL.out _ ?_
            unfold rangeT; simp
          clear HL
          go_wp2_with fail
          go_region
          go_wp2_with fail
          go_region
          go_wp2
          go_roundw
          case rel => exact ⟨k + 1, O ++ F1, by go_num, rfl, by omega, by rw [ByteArray.size_append]; omega, HLL, hW6.out.drew.drew⟩
          case measure => simp [intOf]; omega
        · by_cases hgt : 1 < t - f
          · have k1 : decide ((1 : Int) < (t : Int) - (f : Int)) = true := by simp; omega
            have k2 : ((t : Int) != (f : Int)) = true := by simp; omega
            have HLL : Hid (((O ++ F1) ++ ⟨#[45]⟩) ++ F2 = bytesStr (hd ++ rangesT (R.take (k + 1)))) := by
              refine Lib.hid ?_
              rw [HF1.out, HF2.out, ba_assoc, ba_assoc]
              rw [show (⟨#[45]⟩ : ByteArray) = bytesStr [45] from rfl, bytesStr_append, bytesStr_append]
              refine HL.out _ ?_
              unfold rangeT
              rw [if_neg heq, if_pos (by simp; omega)]
              simp
            have hz : (⟨#[45]⟩ : ByteArray).size = 1 := rfl
            clear HL
            go_wp2_with fail
            go_region
            go_wp2_with fail
            go_region
            go_wp2_with fail
            refine (O2 _).out.mono ?_
            rintro e w7 ⟨rfl, hB7⟩
            have hW7 := Lib.hid (hW6.out.drew.drew.trans (hB7.mono hW6.out.size))
            clear hB7 hW6 q1 q2 O2
            go_wp2
            go_roundw
            case rel => exact ⟨k + 1, _, by go_num, rfl, by omega, by rw [ByteArray.size_append, ByteArray.size_append, ByteArray.size_append, hz]; omega, HLL, hW7⟩
            case measure => simp [intOf]; omega
          · have k1 : decide ((1 : Int) < (t : Int) - (f : Int)) = false := by simp; omega
            have k2 : ((t : Int) != (f : Int)) = true := by simp; omega
            have HLL : Hid ((O ++ F1) ++ F2 = bytesStr (hd ++ rangesT (R.take (k + 1)))) := by
              refine Lib.hid ?_
              rw [HF1.out, HF2.out, ba_assoc, bytesStr_append]
              refine HL.out _ ?_
              unfold rangeT
              rw [if_neg heq, if_neg (by simp; omega)]
            clear HL
            go_wp2_with fail
            go_region
            go_wp2_with fail
            go_region
            go_wp2_with fail
            refine (O2 _).out.mono ?_
            rintro e w7 ⟨rfl, hB7⟩
            have hW7 := Lib.hid (hW6.out.drew.drew.trans (hB7.mono hW6.out.size))
            clear hB7 hW6 q1 q2 O2
            go_wp2
            go_roundw
            case rel => exact ⟨k + 1, _, by go_num, rfl, by omega, by rw [ByteArray.size_append, ByteArray.size_append]; omega, HLL, hW7⟩
            case measure => simp [intOf]; omega
      · obtain rfl : k = R.length := by omega
        rw [List.take_length] at hO
        have HE : Hid (O ++ bytesStr [93] = bytesStr TX) := by
          refine Lib.hid ?_
          rw [hO.out, bytesStr_append, HT2.out]
        have hz : (bytesStr [93]).size = 1 := bytesStr_size [93]
        go_wp2
        go_ret
        exact ⟨by rw [← HE.out]; rfl, HB.out.trans (hW.out.mono HB.out.size)⟩
end Go.Proofs.YtdodkbpagbblmaaGreatDoor
end
section
namespace Go.Proofs.YtdodkbpagbblmaaGreatDoor
open Go Go.RowKit

theorem may1 (tx : ByteArray) (st : BS) (nm : Int) : mayB ⟨1, tx, st, nm⟩ = ((nm == 0) && ((st == 0#256) && nameB tx.data.toList)) := by
  have h : mayB ⟨1, tx, st, nm⟩ = (nameB tx.data.toList && ((1 : Int) == 1 && (tx.toList == tx.toList && (st == 0#256 && nm == 0)))) := rfl
  rw [h]
  cases nameB tx.data.toList <;> cases (st == 0#256) <;> cases (nm == 0) <;> simp
theorem may2 (tx : ByteArray) (st : BS) (nm : Int) : mayB ⟨2, tx, st, nm⟩ = ((nm == 0) && (st == 0#256)) := by
  have h : mayB ⟨2, tx, st, nm⟩ = (true && ((2 : Int) == 2 && (tx.toList == tx.toList && (st == 0#256 && nm == 0)))) := rfl
  rw [h]
  cases (st == 0#256) <;> cases (nm == 0) <;> simp
theorem map_back (l : List UInt8) : (l.map UInt8.toNat).map UInt8.ofNat = l := by
  induction l with
  | nil => rfl
  | cons c l ih => rw [List.map_cons, List.map_cons, ih]; simp
theorem empty_is (tx : ByteArray) : (tx.toList == (⟨#[]⟩ : ByteArray).toList) = tx.toList.isEmpty := by
  have h : (⟨#[]⟩ : ByteArray).toList = [] := List.isEmpty_iff.1 (isEmpty_of ⟨#[]⟩ rfl)
  rw [h]
  cases tx.toList <;> rfl
theorem may3 (tx : ByteArray) (st : BS) (nm : Int) : mayB ⟨3, tx, st, nm⟩ = ((nm == 0) && tx.toList.isEmpty) := by
  have h : mayB ⟨3, tx, st, nm⟩ = (true && ((3 : Int) == 3 && (tx.toList == (⟨#[]⟩ : ByteArray).toList && (st == st && nm == 0)))) := rfl
  rw [h, empty_is]
  cases tx.toList.isEmpty <;> cases (nm == 0) <;> simp
theorem may4 (tx : ByteArray) (st : BS) (nm : Int) : mayB ⟨4, tx, st, nm⟩ = (tx.toList.isEmpty && ((st == 0#256) && (decide (0 ≤ nm) && decide (nm ≤ 999999999)))) := by
  have h : mayB ⟨4, tx, st, nm⟩ = (decide (0 ≤ nm ∧ nm ≤ 999999999) && ((4 : Int) == 4 && (tx.toList == (⟨#[]⟩ : ByteArray).toList && (st == 0#256 && nm == nm)))) := rfl
  rw [h, Bool.decide_and, empty_is]
  cases tx.toList.isEmpty <;> cases (st == 0#256) <;> cases decide (0 ≤ nm) <;> cases decide (nm ≤ 999999999) <;> simp
theorem may5 (tx : ByteArray) (st : BS) (nm : Int) : mayB ⟨5, tx, st, nm⟩ = ((nm == 0) && ((st == 0#256) && signT tx.data.toList)) := by
  have h : mayB ⟨5, tx, st, nm⟩ = (signT tx.data.toList && ((5 : Int) == 5 && (tx.toList == tx.toList && (st == 0#256 && nm == 0)))) := rfl
  rw [h]
  cases signT tx.data.toList <;> cases (st == 0#256) <;> cases (nm == 0) <;> simp
theorem may0 (kd : Int) (tx : ByteArray) (st : BS) (nm : Int) (h1 : kd ≠ 1) (h2 : kd ≠ 2) (h3 : kd ≠ 3) (h4 : kd ≠ 4) (h5 : kd ≠ 5) : mayB ⟨kd, tx, st, nm⟩ = false := by
  unfold mayB okW
  rw [if_neg h1, if_neg h2, if_neg h3, if_neg h4, if_neg h5]
  rfl
theorem signT_one (s : ByteArray) (h : s.size = 1) : signT s.data.toList = sgnB (s[0]'(by omega)).toNat := by
  have h1 := drop_at s 0 (by omega)
  rw [List.drop_zero] at h1
  have h2 : s.data.toList.drop (0 + 1) = [] := List.drop_eq_nil_of_le (by rw [← Lib.size_eq]; omega)
  rw [h1, h2]
  rfl
theorem signT_not (s : ByteArray) (h : s.size ≠ 1) : signT s.data.toList = false := by
  rw [Lib.size_eq] at h
  match hl : s.data.toList with
  | [] => rfl
  | [c] => rw [hl] at h; exact absurd rfl h
  | _ :: _ :: _ => rfl
end Go.Proofs.YtdodkbpagbblmaaGreatDoor
end
section
namespace Go.Proofs.YtdodkbpagbblmaaGreatDoor
open Go Go.RowKit

/-- The signs. -/
def sgnT : ByteArray := ⟨#[59, 46, 61, 44, 40, 41, 123, 125, 62, 63, 42, 43]⟩
theorem sgn_in : ∀ b : Fin 256, sgnB b.val = true → ∃ m : Fin 12, (sgnT[m.val]'m.isLt).toNat = b.val := by decide +kernel
theorem sgn_out : ∀ (b : Fin 256) (m : Fin 12), (sgnT[m.val]'m.isLt).toNat = b.val → sgnB b.val = true := by decide +kernel

set_option maxRecDepth 100000 in
set_option maxHeartbeats 4000000 in
theorem rin_any (b : Nat) (hb : b < 256) (w : World) : Calls Tryz.prog 48 #[.int .u8 b, .string ⟨#[59, 46, 61, 44, 40, 41, 123, 125, 62, 63, 42, 43]⟩] w fun e w' => e = .returned (.bool (sgnB b)) ∧ w = w' := by
  have HI := Lib.hid (sgn_in ⟨b, hb⟩)
  have HO := fun m => Lib.hid (sgn_out ⟨b, hb⟩ m)
  have e0 : (⟨#[59, 46, 61, 44, 40, 41, 123, 125, 62, 63, 42, 43]⟩ : ByteArray) = sgnT := rfl
  have hsz : sgnT.size = 12 := rfl
  rw [e0]
  obtain ⟨s, hs⟩ : ∃ s, s = sgnT := ⟨_, rfl⟩
  dsimp only at HI HO
  have HI2 : Hid (sgnB b = true → ∃ m : Nat, ∃ h : m < s.size, (s[m]'h).toNat = b) := Lib.hid (by subst hs; intro h; obtain ⟨m, hm⟩ := HI.out h; exact ⟨m.val, m.isLt, hm⟩)
  have HO2 : Hid (∀ (m : Nat) (h : m < s.size), (s[m]'h).toNat = b → sgnB b = true) := Lib.hid (by subst hs; intro m h hm; exact (HO ⟨m, h⟩).out hm)
  have hsz2 : s.size = 12 := by rw [hs]; exact hsz
  rw [← hs]
  clear HI HO e0 hs hsz
  go_enter Tryz.func48, Tryz.ntmps48
  go_wp2
  go_loopw [5] (fun i wr => ∃ m : Nat, i = .int .i64 m ∧ m ≤ 12 ∧ Hid (∀ k, (h : k < s.size) → k < m → (s[k]'h).toNat ≠ b) ∧ wr = w)
    (fun i _ => 12 - (intOf i).toNat)
  case atStart => exact ⟨0, rfl, Nat.zero_le _, Lib.hid (fun k _ h => absurd h (by omega)), rfl⟩
  case round =>
    obtain ⟨m, rfl, hm, hI, rfl⟩ := hrel
    by_cases hlt : m < 12
    · have hms : m < s.size := by omega
      obtain ⟨y, hy⟩ : ∃ y, y = (s[m]'hms).toNat := ⟨_, rfl⟩
      have hi : ∀ h, (s[m]'h).toNat = y := fun h => hy.symm
      by_cases hyb : y = b
      · have HS : Hid (sgnB b = true) := Lib.hid (HO2.out m hms (by rw [← hy]; exact hyb))
        have d1 : ((y : Int) == (b : Int)) = true := by rw [beq_iff_eq]; omega
        clear hI hy HI2 HO2
        go_wp2
        go_ret
        simp [HS.out]
      · have d1 : ((y : Int) == (b : Int)) = false := by rw [beq_eq_false_iff_ne]; omega
        have hI2 : Hid (∀ k, (h : k < s.size) → k < m + 1 → (s[k]'h).toNat ≠ b) := Lib.hid fun k h hk => by
          by_cases e : k = m
          · subst e; rw [← hy]; exact hyb
          · exact hI.out k h (by omega)
        clear hI hy
        go_wp2
        go_roundw
        case rel => exact ⟨m + 1, by go_num, by omega, hI2, by first | rfl | trivial⟩
        case measure => simp [intOf]; omega
    · obtain rfl : m = 12 := by omega
      have HS : Hid (sgnB b = false) := Lib.hid (by
        cases h : sgnB b with
        | false => rfl
        | true => obtain ⟨k, hk, e⟩ := HI2.out h; exact absurd e (hI.out k hk (by omega)))
      clear hI HI2 HO2
      go_wp2
      go_ret
      simp [HS.out]

set_option maxRecDepth 100000 in
set_option maxHeartbeats 8000000 in
/-- The document's May. -/
theorem rmay_any (x : Wd) (a : Int) (ht : x.txt.size ≤ 140737488351232) (w : World) : Calls Tryz.prog 28 #[wordV x a] w fun e w' => e = .returned (.bool (mayB x)) ∧ Below w.heap.size w w' := by
  obtain ⟨kd, tx, st, nm⟩ := x
  dsimp only at ht
  have key : ∀ r, mayB ⟨kd, tx, st, nm⟩ = r → (Calls Tryz.prog 28 #[wordV ⟨kd, tx, st, nm⟩ a] w fun e w' => e = .returned (.bool r) ∧ Below w.heap.size w w') → Calls Tryz.prog 28 #[wordV ⟨kd, tx, st, nm⟩ a] w fun e w' => e = .returned (.bool (mayB ⟨kd, tx, st, nm⟩)) ∧ Below w.heap.size w w' := fun r h k => by rw [h]; exact k
  have HE := eq_sets st 0#256
  obtain ⟨z0, z1, z2, z3⟩ := wz
  rw [z0, z1, z2, z3] at HE
  have hBw : ∀ o, Below w.heap.size w (w.alloc o) := fun o => (Below.refl _ w).alloc (Nat.le_refl _) _
  by_cases c1 : kd = 1
  · subst c1
    refine key _ (may1 tx st nm) ?_
    have HC := Lib.hid (fun w' => rname_any tx ht w')
    obtain ⟨q, hq⟩ : ∃ q, q = (nm == 0) := ⟨_, rfl⟩
    obtain ⟨r, hr⟩ : ∃ r, r = (st == 0#256) := ⟨_, rfl⟩
    obtain ⟨u, hu⟩ : ∃ u, u = nameB tx.data.toList := ⟨_, rfl⟩
    rw [← hq, ← hr, ← hu]
    rw [← hr] at HE
    rw [← hu] at HC
    have hq2 := hq.symm
    clear key hr hu hq z0 z1 z2 z3
    unfold wordV wordC
    cases q with
    | false =>
      go_enter Tryz.func28, Tryz.ntmps28
      go_wp2
      go_ret
      exact ⟨rfl, hBw _⟩
    | true =>
      cases r with
      | false =>
        go_enter Tryz.func28, Tryz.ntmps28
        go_wp2
        go_ret
        exact ⟨rfl, hBw _⟩
      | true =>
        go_enter Tryz.func28, Tryz.ntmps28
        go_wp2_with (go_at_call 20; refine (HC.out _).mono ?_; rintro e w' ⟨rfl, rfl⟩)
        go_ret
        exact ⟨by simp, hBw _⟩
  by_cases c2 : kd = 2
  · subst c2
    refine key _ (may2 tx st nm) ?_
    obtain ⟨q, hq⟩ : ∃ q, q = (nm == 0) := ⟨_, rfl⟩
    obtain ⟨r, hr⟩ : ∃ r, r = (st == 0#256) := ⟨_, rfl⟩
    rw [← hq, ← hr]
    rw [← hr] at HE
    have hq2 := hq.symm
    clear key hr hq z0 z1 z2 z3
    unfold wordV wordC
    cases q with
    | false =>
      go_enter Tryz.func28, Tryz.ntmps28
      go_wp2
      go_ret
      exact ⟨rfl, hBw _⟩
    | true =>
      cases r with
      | false =>
        go_enter Tryz.func28, Tryz.ntmps28
        go_wp2
        go_ret
        exact ⟨rfl, hBw _⟩
      | true =>
        go_enter Tryz.func28, Tryz.ntmps28
        go_wp2
        go_ret
        exact ⟨rfl, hBw _⟩
  by_cases c3 : kd = 3
  · subst c3
    refine key _ (may3 tx st nm) ?_
    obtain ⟨q, hq⟩ : ∃ q, q = (nm == 0) := ⟨_, rfl⟩
    obtain ⟨r, hr⟩ : ∃ r, r = tx.toList.isEmpty := ⟨_, rfl⟩
    rw [← hq, ← hr]
    have hq2 := hq.symm
    have hr2 := hr.symm
    clear key hr hq z0 z1 z2 z3
    unfold wordV wordC
    cases q with
    | false =>
      go_enter Tryz.func28, Tryz.ntmps28
      go_wp2
      go_ret
      exact ⟨rfl, hBw _⟩
    | true =>
      cases r with
      | false =>
        go_enter Tryz.func28, Tryz.ntmps28
        go_wp2
        go_ret
        exact ⟨rfl, hBw _⟩
      | true =>
        go_enter Tryz.func28, Tryz.ntmps28
        go_wp2
        go_ret
        exact ⟨rfl, hBw _⟩
  by_cases c4 : kd = 4
  · subst c4
    refine key _ (may4 tx st nm) ?_
    obtain ⟨q, hq⟩ : ∃ q, q = tx.toList.isEmpty := ⟨_, rfl⟩
    obtain ⟨r, hr⟩ : ∃ r, r = (st == 0#256) := ⟨_, rfl⟩
    rw [← hq, ← hr]
    rw [← hr] at HE
    have hq2 := hq.symm
    clear key hr hq z0 z1 z2 z3
    unfold wordV wordC
    cases q with
    | false =>
      go_enter Tryz.func28, Tryz.ntmps28
      go_wp2
      go_ret
      exact ⟨rfl, hBw _⟩
    | true =>
      cases r with
      | false =>
        go_enter Tryz.func28, Tryz.ntmps28
        go_wp2
        go_ret
        exact ⟨rfl, hBw _⟩
      | true =>
        by_cases g0 : 0 ≤ nm
        · have d0 : decide (0 ≤ nm) = true := decide_eq_true g0
          rw [d0]
          by_cases g1 : nm ≤ 999999999
          · have d1 : decide (nm ≤ 999999999) = true := decide_eq_true g1
            rw [d1]
            go_enter Tryz.func28, Tryz.ntmps28
            go_wp2
            go_ret
            exact ⟨rfl, hBw _⟩
          · have d1 : decide (nm ≤ 999999999) = false := decide_eq_false g1
            rw [d1]
            go_enter Tryz.func28, Tryz.ntmps28
            go_wp2
            go_ret
            exact ⟨rfl, hBw _⟩
        · have d0 : decide (0 ≤ nm) = false := decide_eq_false g0
          rw [d0]
          go_enter Tryz.func28, Tryz.ntmps28
          go_wp2
          go_ret
          exact ⟨rfl, hBw _⟩
  by_cases c5 : kd = 5
  · subst c5
    refine key _ (may5 tx st nm) ?_
    obtain ⟨q, hq⟩ : ∃ q, q = (nm == 0) := ⟨_, rfl⟩
    obtain ⟨r, hr⟩ : ∃ r, r = (st == 0#256) := ⟨_, rfl⟩
    rw [← hq, ← hr]
    rw [← hr] at HE
    have hq2 := hq.symm
    have HS1 := signT_one tx
    have HS0 := signT_not tx
    clear key hr hq z0 z1 z2 z3
    unfold wordV wordC
    cases q with
    | false =>
      go_enter Tryz.func28, Tryz.ntmps28
      go_wp2
      go_ret
      exact ⟨rfl, hBw _⟩
    | true =>
      cases r with
      | false =>
        go_enter Tryz.func28, Tryz.ntmps28
        go_wp2
        go_ret
        exact ⟨rfl, hBw _⟩
      | true =>
        by_cases h1 : tx.size = 1
        · rw [HS1 h1]
          obtain ⟨b, hb⟩ : ∃ b, b = (tx[0]'(by omega)).toNat := ⟨_, rfl⟩
          have hi : ∀ h, (tx[0]'h).toNat = b := fun h => hb.symm
          rw [← hb]
          have HC := Lib.hid (fun w' => rin_any b (by rw [hb]; exact (tx[0]'(by omega)).toNat_lt) w')
          have d1 : ((tx.size : Int) == 1) = true := by rw [beq_iff_eq]; omega
          clear hb HS1 HS0
          obtain ⟨u, hu⟩ : ∃ u, u = sgnB b := ⟨_, rfl⟩
          rw [← hu] at HC ⊢
          clear hu
          cases u with
          | false =>
            go_enter Tryz.func28, Tryz.ntmps28
            go_wp2_with (go_at_call 48; refine (HC.out _).mono ?_; rintro e w' ⟨rfl, rfl⟩)
            go_ret
            exact ⟨rfl, hBw _⟩
          | true =>
            go_enter Tryz.func28, Tryz.ntmps28
            go_wp2_with (go_at_call 48; refine (HC.out _).mono ?_; rintro e w' ⟨rfl, rfl⟩)
            go_ret
            exact ⟨rfl, hBw _⟩
        · rw [HS0 h1]
          have d1 : ((tx.size : Int) == 1) = false := by rw [beq_eq_false_iff_ne]; omega
          clear HS1 HS0
          go_enter Tryz.func28, Tryz.ntmps28
          go_wp2
          go_ret
          exact ⟨rfl, hBw _⟩
  · refine key false (may0 kd tx st nm c1 c2 c3 c4 c5) ?_
    have d1 : (kd == 1) = false := by rw [beq_eq_false_iff_ne]; exact c1
    have d2 : (kd == 2) = false := by rw [beq_eq_false_iff_ne]; exact c2
    have d3 : (kd == 3) = false := by rw [beq_eq_false_iff_ne]; exact c3
    have d4 : (kd == 4) = false := by rw [beq_eq_false_iff_ne]; exact c4
    have d5 : (kd == 5) = false := by rw [beq_eq_false_iff_ne]; exact c5
    clear key z0 z1 z2 z3 HE
    unfold wordV wordC
    go_enter Tryz.func28, Tryz.ntmps28
    go_wp2
    go_ret
    exact ⟨rfl, hBw _⟩

set_option maxRecDepth 100000 in
set_option maxHeartbeats 4000000 in
/-- The document's Told. -/
theorem rtold_any (x : Wd) (a : Int) (ht : x.txt.size ≤ 1048576) (hm0 : -9223372036854775808 ≤ x.num) (hm1 : x.num ≤ 9223372036854775807) (w : World) (hG : GlobD w) :
    Calls Tryz.prog 29 #[wordV x a] w fun e w' => e = .returned (.string (bytesStr (wordF x))) ∧ Below w.heap.size w w' := by
  obtain ⟨kd, tx, st, nm⟩ := x
  dsimp only at ht hm0 hm1
  have hB0 : Below w.heap.size w (w.alloc (.cells (wordC ⟨kd, tx, st, nm⟩ a) 35)) := (Below.refl _ w).alloc (Nat.le_refl _) _
  have HG0 := Lib.hid (hG.below (Nat.le_refl _) hB0)
  have HB0 := Lib.hid hB0
  have hwk : wordF ⟨kd, tx, st, nm⟩ = if kd = 2 then quoteF tx.data.toList else if kd = 3 then textS st else if kd = 4 then (Lib.itoa nm).map UInt8.toNat else tx.data.toList.map UInt8.toNat := rfl
  rw [hwk]
  clear hwk hG hB0
  by_cases c1 : kd = 2
  · rw [if_pos c1]
    subst c1
    have HC := Lib.hid (fun w' => rquote_any tx ht w')
    generalize quoteF tx.data.toList = L at HC ⊢
    unfold wordC at HB0 HG0
    unfold wordV wordC
    go_enter Tryz.func29, Tryz.ntmps29
    go_wp2_with (go_at_call 18; refine (HC.out _).mono ?_; rintro e w3 ⟨rfl, hB3⟩)
    go_ret
    exact ⟨rfl, HB0.out.trans (hB3.mono HB0.out.size)⟩
  · rw [if_neg c1]
    have d2 : (kd == 2) = false := by rw [beq_eq_false_iff_ne]; exact c1
    by_cases c2 : kd = 3
    · rw [if_pos c2]
      subst c2
      have HC := Lib.hid (fun w' => rtext_any st w')
      generalize textS st = L at HC ⊢
      unfold vset at HC
      unfold wordC at HB0 HG0
      unfold wordV wordC
      go_enter Tryz.func29, Tryz.ntmps29
      go_wp2_with (go_at_call 51; refine (HC.out _).mono ?_; rintro e w3 ⟨rfl, hB3⟩)
      go_ret
      exact ⟨rfl, HB0.out.trans (hB3.mono HB0.out.size)⟩
    · rw [if_neg c2]
      have d3 : (kd == 3) = false := by rw [beq_eq_false_iff_ne]; exact c2
      by_cases c3 : kd = 4
      · rw [if_pos c3]
        subst c3
        have HC := Lib.hid (itoa_any nm hm0 hm1 _ HG0.out)
        have e0 : (⟨(Lib.itoa nm).toArray⟩ : ByteArray) = bytesStr ((Lib.itoa nm).map UInt8.toNat) := by
          apply WideShapes.bytes_inj
          rw [bytesStr_list, map_back]
        rw [e0] at HC
        generalize (Lib.itoa nm).map UInt8.toNat = L at HC ⊢
        clear e0
        unfold wordC at HB0 HG0 HC
        unfold wordV wordC
        go_enter Tryz.func29, Tryz.ntmps29
        go_wp2_with (go_at_call 52; refine HC.out.mono ?_; rintro e w3 ⟨rfl, hB3⟩)
        go_ret
        exact ⟨rfl, HB0.out.trans (hB3.mono HB0.out.size)⟩
      · rw [if_neg c3]
        have d4 : (kd == 4) = false := by rw [beq_eq_false_iff_ne]; exact c3
        have e0 : bytesStr (tx.data.toList.map UInt8.toNat) = tx := by
          apply WideShapes.bytes_inj
          rw [bytesStr_list, map_back]
        rw [e0]
        clear e0
        unfold wordC at HB0 HG0
        unfold wordV wordC
        go_enter Tryz.func29, Tryz.ntmps29
        go_wp2
        go_ret
        exact ⟨rfl, HB0.out⟩
end Go.Proofs.YtdodkbpagbblmaaGreatDoor
end
section
namespace Go.Proofs.YtdodkbpagbblmaaGreatDoor
open Go Go.RowKit

/-- A list in memory of its own, one element more behind it. -/
def Sent (B : Nat) (e : TypeId) (size : Nat) (xs last : List Value) (n g c : Nat) (w : World) : Prop :=
  w.ownsRow B e size (.slice (some ⟨g, 0, none⟩) (n + 1) c) (n + 1) (xs ++ last) ∧ n + 1 ≤ c

theorem Sent.of {B size n : Nat} {e : TypeId} {xs last : List Value} {v : Value} {w : World} (h : w.ownsRow B e size v (n + 1) (xs ++ last)) :
    ∃ g c, v = .slice (some ⟨g, 0, none⟩) (n + 1) c ∧ Sent B e size xs last n g c w := by
  have h0 := h
  rcases h.2 with ⟨_, h1⟩ | ⟨g, cap, cur, rfl, _, _, h1, _⟩
  · omega
  · exact ⟨g, cap, rfl, h0, h1⟩

theorem Sent.below {B size n g c m : Nat} {e : TypeId} {xs last : List Value} {w w' : World} (h : Sent B e size xs last n g c w) (hB : Below m w w') (hm : w.heap.size ≤ m) : Sent B e size xs last n g c w' :=
  ⟨own_below h.1 hB hm, h.2⟩
theorem Sent.cells {B size n g c : Nat} {e : TypeId} {xs last : List Value} {w : World} (h : Sent B e size xs last n g c w) (j : Nat) (hj : j < (n + 1) * size) : w.cell? ⟨g, j, none⟩ = (xs ++ last)[j]? := h.1.cellAt j hj
theorem Sent.lt {B size n g c : Nat} {e : TypeId} {xs last : List Value} {w : World} (h : Sent B e size xs last n g c w) : g < w.heap.size := by
  rcases h.1.2 with ⟨h1, _⟩ | ⟨g', cap, cur, h1, _, h2, _⟩
  · cases h1
  · cases h1; exact (Array.getElem?_eq_some_iff.1 h2).1
theorem add_zero_off (b off j : Nat) : (⟨b, off, none⟩ : Addr).add j = ⟨b, off + j, none⟩ := by
  unfold Addr.add; split
  · next h => rw [h]; rfl
  · rfl
theorem le_alloc {n : Nat} {w : World} (h : n ≤ w.heap.size) (o : Obj) : n ≤ (w.alloc o).heap.size := by simp; omega
theorem cell_lt0 {w : World} {a : Addr} {v : Value} (h : w.cell? a = some v) : a.block < w.heap.size := by
  unfold World.cell? at h
  by_cases hb : a.block < w.heap.size
  · exact hb
  · simp [Array.getElem?_eq_none (Nat.le_of_not_lt hb)] at h

/-- The cells of words with their places. -/
def cellsX (l : List (Wd × Int)) : List Value := l.flatMap fun x => (wordC x.1 x.2).toList
theorem cellsX_cons (x : Wd × Int) (l : List (Wd × Int)) : cellsX (x :: l) = .int .i64 x.1.kind :: .int .i64 x.2 :: .string x.1.txt :: .int .u64 (wdI x.1.set 0) :: .int .u64 (wdI x.1.set 1) :: .int .u64 (wdI x.1.set 2) :: .int .u64 (wdI x.1.set 3) :: .int .i64 x.1.num :: cellsX l := rfl
theorem cellsX_length (l : List (Wd × Int)) : (cellsX l).length = l.length * 8 := by
  induction l with
  | nil => rfl
  | cons r rs ih => rw [cellsX_cons]; simp only [List.length_cons, ih]; omega
theorem cellsX_at (l : List (Wd × Int)) : ∀ (i : Nat) (x : Wd × Int), l[i]? = some x → ∀ (j : Nat), j < 8 → (cellsX l)[i * 8 + j]? = (wordC x.1 x.2).toList[j]? := by
  induction l with
  | nil => intro i x hx; simp at hx
  | cons r rs ih =>
    intro i x hx j hj
    have hc : cellsX (r :: rs) = (wordC r.1 r.2).toList ++ cellsX rs := rfl
    have hl : (wordC r.1 r.2).toList.length = 8 := rfl
    rw [hc]
    cases i with
    | zero =>
      simp at hx
      subst hx
      rw [List.getElem?_append_left (by omega), Nat.zero_mul, Nat.zero_add]
    | succ i =>
      have h := ih i x (by simpa using hx) j hj
      rw [List.getElem?_append_right (by omega), ← h, hl]
      congr 1
      omega
theorem one_X (l : List (Wd × Int)) : ∀ u ∈ cellsX l, u.oneCell' = true := by
  intro u hu
  unfold cellsX at hu
  obtain ⟨x, _, hx⟩ := List.mem_flatMap.1 hu
  simp [wordC] at hx
  rcases hx with rfl | rfl | rfl | rfl | rfl | rfl | rfl | rfl <;> rfl
theorem WordAt.ix {w : World} {b o : Nat} {x : Wd × Int} (h : WordAt w b o x) (j : Nat) (hj : j < 8) : w.cell? ⟨b, o + j, none⟩ = (wordC x.1 x.2).toList[j]? := by
  obtain ⟨h0, h1, h2, h3, h4, h5, h6, h7⟩ := h
  match j, hj with
  | 0, _ => exact h0
  | 1, _ => exact h1
  | 2, _ => exact h2
  | 3, _ => exact h3
  | 4, _ => exact h4
  | 5, _ => exact h5
  | 6, _ => exact h6
  | 7, _ => exact h7
theorem WordAt.of {w : World} {b o : Nat} {x : Wd × Int} (h : ∀ j, j < 8 → w.cell? ⟨b, o + j, none⟩ = (wordC x.1 x.2).toList[j]?) : WordAt w b o x :=
  ⟨h 0 (by omega), h 1 (by omega), h 2 (by omega), h 3 (by omega), h 4 (by omega), h 5 (by omega), h 6 (by omega), h 7 (by omega)⟩
theorem news_X {w : World} {ad : Addr} {l : List (Wd × Int)} (hd : RowW w (some ad) l) : ∀ j u, (cellsX l)[j]? = some u → w.cell? (ad.add j) = some u := by
  intro j u hu
  have hj : j < l.length * 8 := by
    have := (List.getElem?_eq_some_iff.1 hu).1
    rwa [cellsX_length] at this
  have hi : j / 8 < l.length := by omega
  obtain ⟨b, off, hab, hw⟩ := hd (j / 8) l[j / 8] (List.getElem?_eq_getElem hi)
  cases hab
  have k := cellsX_at l (j / 8) l[j / 8] (List.getElem?_eq_getElem hi) (j % 8) (by omega)
  have e : j / 8 * 8 + j % 8 = j := by omega
  have e2 : off + j / 8 * 8 + j % 8 = off + j := by omega
  rw [e] at k
  rw [add_zero_off, ← e2, hw.ix (j % 8) (by omega), ← k, hu]
theorem Sent.rowX {B n g c : Nat} {last : List Value} {l : List (Wd × Int)} {w : World} (h : Sent B 35 8 (cellsX l) last n g c w) (hn : n = l.length) : RowW w (some ⟨g, 0, none⟩) l := by
  intro i x hx
  have hi := (List.getElem?_eq_some_iff.1 hx).1
  refine ⟨g, 0, rfl, WordAt.of fun j hj => ?_⟩
  rw [Nat.zero_add, h.cells _ (by omega), List.getElem?_append_left (by rw [cellsX_length]; omega)]
  exact cellsX_at l i x hx j hj
theorem row_none_X {w : World} {l : List (Wd × Int)} (h : RowW w none l) : l = [] := by
  cases l with
  | nil => rfl
  | cons x r => obtain ⟨b, off, e, _⟩ := h 0 x rfl; cases e
theorem cell_eight_lit (w : World) (x : Wd × Int) (t : TypeId) : ∀ j v, (wordC x.1 x.2).toList[j]? = some v → (w.alloc (.cells (wordC x.1 x.2) t)).cell? ((⟨w.heap.size, 0, none⟩ : Addr).add j) = some v := by
  intro j v hj
  have hb := Blk.new w t (wordC x.1 x.2)
  rw [add_zero_off, Nat.zero_add, hb.cell j]
  rw [← hj]; simp
end Go.Proofs.YtdodkbpagbblmaaGreatDoor
end
section
namespace Go.Proofs.YtdodkbpagbblmaaGreatDoor
open Go Go.RowKit

/-- Words of at most 5000 bytes. -/
def Sm5 (l : List (Wd × Int)) : Prop := ∀ x ∈ l, x.1.txt.size ≤ 5000 ∧ -9223372036854775808 ≤ x.1.num ∧ x.1.num ≤ 9223372036854775807
theorem join_next (l : List (Wd × Int)) (m : Nat) (x : Wd × Int) (h : l.take (m + 1) = l.take m ++ [x]) (hm : m ≤ l.length) : joinW (l.take (m + 1)) = (if m = 0 then [] else joinW (l.take m) ++ [32]) ++ wordF x.1 := by
  rw [h]
  by_cases h0 : m = 0
  · subst h0
    rw [List.take_zero, if_pos rfl]
    simp [joinW, tailW]
  · rw [if_neg h0]
    refine joinW_snoc _ _ ?_
    intro e
    have := congrArg List.length e
    rw [List.length_take, List.length_nil] at this
    omega
theorem printR_all (l : List (Wd × Int)) (h : ∀ x ∈ l, mayB x.1 = true) : printR l = if 1048576 < (joinW l).length then (⟨#[]⟩, 3) else (bytesStr (joinW l), 0) := by
  unfold printR
  rw [if_pos (List.all_eq_true.2 h)]
theorem printR_bad (l : List (Wd × Int)) (x : Wd × Int) (hx : x ∈ l) (h : mayB x.1 = false) : printR l = (⟨#[]⟩, 2) := by
  unfold printR
  rw [if_neg]
  intro e
  have := List.all_eq_true.1 e _ hx
  rw [h] at this
  cases this

set_option maxRecDepth 100000 in
set_option maxHeartbeats 8000000 in
/-- The document's Print. -/
theorem rprint_any (a : Option Addr) (cap : Nat) (l : List (Wd × Int)) (n : Nat) (hn : l.length = n) (hn1 : n ≤ 300) (hx : Sm5 l) (w : World) (hG : GlobD w) (hl : RowW w a l) :
    Calls Tryz.prog 14 #[.slice a n cap] w fun e w' => e = .returned (.tuple #[.string (printR l).1, .int .i64 (printR l).2]) ∧ Below w.heap.size w w' := by
  have HD := Lib.hid hl
  have HG := Lib.hid hG
  have HX := Lib.hid hx
  have HN := Lib.hid hn
  clear hl hG hx hn
  go_enter Tryz.func14, Tryz.ntmps14
  go_wp2
  go_loopw [4, 5] (fun q i wr => ∃ (m : Nat) (t : ByteArray), q = .string t ∧ i = .int .i64 m ∧ m ≤ n ∧ t.size ≤ 23001 * m ∧ Hid (t = bytesStr (joinW (l.take m))) ∧ Hid (∀ x ∈ l.take m, mayB x.1 = true) ∧ Hid (Below w.heap.size w wr))
    (fun _ i _ => n - (intOf i).toNat)
  case atStart => exact ⟨0, ⟨#[]⟩, rfl, rfl, Nat.zero_le _, Nat.le_refl _, Lib.hid rfl, Lib.hid (by simp), Below.refl _ _⟩
  case round =>
    obtain ⟨m, t, rfl, rfl, hm, hts, hT, hA, hB⟩ := hrel
    have hszr := hB.out.size
    by_cases hlt : m < n
    · have HXm : Hid (l[m]? = some (l[m]'(by rw [HN.out]; exact hlt))) := Lib.hid (List.getElem?_eq_getElem _)
      obtain ⟨x, hx⟩ : ∃ x, l[m]'(by rw [HN.out]; exact hlt) = x := ⟨_, rfl⟩
      rw [hx] at HXm
      clear hx
      have hmem := List.mem_of_getElem? HXm.out
      have hxs := HX.out x hmem
      have HTk : Hid (l.take (m + 1) = l.take m ++ [x]) := Lib.hid (by rw [List.take_add_one, HXm.out]; rfl)
      have HJ := Lib.hid (join_next l m x HTk.out (by rw [HN.out]; exact hm))
      have HR : Hid (mayB x.1 = false → printR l = (⟨#[]⟩, 2)) := Lib.hid (printR_bad l x hmem)
      have HA2 : Hid (mayB x.1 = true → ∀ y ∈ l.take (m + 1), mayB y.1 = true) := by
        refine Lib.hid fun h => ?_
        rw [HTk.out]
        intro y hy
        rw [List.mem_append] at hy
        rcases hy with hy | hy
        · exact hA.out y hy
        · rw [List.mem_singleton] at hy; rw [hy]; exact h
      clear hmem hA
      obtain ⟨x, ax⟩ := x
      dsimp only at hxs HJ HR HA2
      obtain ⟨hx5, hxn0, hxn1⟩ := hxs
      have hwl := wordF_len x hxn0 hxn1
      obtain ⟨g, off, rfl, hW⟩ := HD.out m _ HXm.out
      have hW := hW.below hB.out hW.lt
      have HW := Lib.hid hW
      have bg := hW.lt
      obtain ⟨c0, c1, c2, c3, c4, c5, c6, c7⟩ := hW
      dsimp only at c0 c1 c2 c3 c4 c5 c6 c7
      have HC := Lib.hid (fun w' => rmay_any x ax (by omega) w')
      have HTd := Lib.hid (fun w' hG' => rtold_any x ax (by omega) hxn0 hxn1 w' hG')
      have n1 : (m : Int) < (n : Int) := by omega
      obtain ⟨T, hTT⟩ : ∃ T, T = bytesStr (wordF x) := ⟨_, rfl⟩
      have hTs : T.size ≤ 23000 := by rw [hTT, bytesStr_size]; omega
      rw [← hTT] at HTd
      have HTT := Lib.hid hTT
      clear hTT hwl
      unfold wordV wordC at HC HTd
      cases hmb : mayB x with
      | false =>
        rw [hmb] at HC
        have HR2 := Lib.hid (HR.out hmb)
        clear HA2 HTd HJ HTk hmb HR
        go_wp2_with fail
        refine (HC.out _).mono ?_
        rintro e w3 ⟨rfl, hB3⟩
        have HB3 := Lib.hid (hB.out.trans (hB3.mono hszr))
        clear hB3
        go_wp2
        go_ret2
        exact ⟨by rw [HR2.out]; rfl, HB3.out⟩
      | true =>
        rw [hmb] at HC
        have HA3 := Lib.hid (HA2.out hmb)
        clear HA2 hmb HR
        by_cases h0 : m = 0
        · have n0 : ¬ (0 : Int) < (m : Int) := by omega
          have HJ2 : Hid (t ++ T = bytesStr (joinW (l.take (m + 1)))) := Lib.hid (by
            rw [HJ.out, if_pos h0, HTT.out, hT.out, h0, List.take_zero, List.nil_append]
            show bytesStr [] ++ _ = _
            rw [bytesStr_append]; rfl)
          have HZ : Hid ((t ++ T).size ≤ 23001 * (m + 1)) := Lib.hid (by rw [ByteArray.size_append]; omega)
          clear HJ h0 hT HTk HTT
          go_wp2_with fail
          refine (HC.out _).mono ?_
          rintro e w3 ⟨rfl, hB3⟩
          have HB3 := Lib.hid (hB.out.trans (hB3.mono hszr))
          have hW3 := HW.out.below hB3 bg
          clear c0 c1 c2 c3 c4 c5 c6 c7
          have bg3 := hW3.lt
          obtain ⟨c0, c1, c2, c3, c4, c5, c6, c7⟩ := hW3
          dsimp only at c0 c1 c2 c3 c4 c5 c6 c7
          clear hB3 HC hB bg
          go_wp2_with fail
          refine (HTd.out _ (HG.out.below (Nat.le_refl _) HB3.out)).mono ?_
          rintro e w4 ⟨rfl, hB4⟩
          have HB4 := Lib.hid (HB3.out.trans (hB4.mono HB3.out.size))
          clear hB4 c0 c1 c2 c3 c4 c5 c6 c7
          go_wp2
          go_roundw
          case rel => exact ⟨m + 1, _, rfl, by go_num, by omega, HZ.out, HJ2, HA3, HB4⟩
          case measure => simp [intOf]; omega
        · have n0 : (0 : Int) < (m : Int) := by omega
          have HJ2 : Hid (t ++ ⟨#[32]⟩ ++ T = bytesStr (joinW (l.take (m + 1)))) := Lib.hid (by
            rw [HJ.out, if_neg h0, HTT.out, hT.out]
            show bytesStr _ ++ bytesStr [32] ++ _ = _
            rw [bytesStr_append, bytesStr_append])
          have HZ : Hid ((t ++ ⟨#[32]⟩ ++ T).size ≤ 23001 * (m + 1)) := Lib.hid (by
            rw [ByteArray.size_append, ByteArray.size_append]
            have : (⟨#[32]⟩ : ByteArray).size = 1 := rfl
            omega)
          clear HJ h0 hT HTk HTT
          go_wp2_with fail
          refine (HC.out _).mono ?_
          rintro e w3 ⟨rfl, hB3⟩
          have HB3 := Lib.hid (hB.out.trans (hB3.mono hszr))
          have hW3 := HW.out.below hB3 bg
          clear c0 c1 c2 c3 c4 c5 c6 c7
          have bg3 := hW3.lt
          obtain ⟨c0, c1, c2, c3, c4, c5, c6, c7⟩ := hW3
          dsimp only at c0 c1 c2 c3 c4 c5 c6 c7
          clear hB3 HC hB bg
          go_wp2_with fail
          refine (HTd.out _ (HG.out.below (Nat.le_refl _) HB3.out)).mono ?_
          rintro e w4 ⟨rfl, hB4⟩
          have HB4 := Lib.hid (HB3.out.trans (hB4.mono HB3.out.size))
          clear hB4 c0 c1 c2 c3 c4 c5 c6 c7
          go_wp2
          go_roundw
          case rel => exact ⟨m + 1, _, rfl, by go_num, by omega, HZ.out, HJ2, HA3, HB4⟩
          case measure => simp [intOf]; omega
    · obtain rfl : m = n := by omega
      have htk : l.take m = l := List.take_of_length_le (by rw [HN.out]; exact Nat.le_refl _)
      rw [htk] at hT hA
      have HP := Lib.hid (printR_all l hA.out)
      have hsz : t.size = (joinW l).length := by rw [hT.out, bytesStr_size]
      by_cases hbig : 1048576 < t.size
      · have n2 : (1048576 : Int) < (t.size : Int) := by omega
        have HP2 : Hid (printR l = (⟨#[]⟩, 3)) := Lib.hid (by rw [HP.out, if_pos (by omega)])
        clear HP hT hA htk hsz
        go_wp2
        go_ret2
        exact ⟨by rw [HP2.out]; rfl, hB.out⟩
      · have n2 : ¬ (1048576 : Int) < (t.size : Int) := by omega
        have HP2 : Hid (printR l = (t, 0)) := Lib.hid (by rw [HP.out, if_neg (by omega), ← hT.out])
        clear HP hT hA htk hsz
        go_wp2
        go_ret2
        exact ⟨by rw [HP2.out]; rfl, hB.out⟩

end Go.Proofs.YtdodkbpagbblmaaGreatDoor
end
